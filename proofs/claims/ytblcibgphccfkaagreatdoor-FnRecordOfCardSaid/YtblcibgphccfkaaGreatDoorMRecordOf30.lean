/- Texts of the proof of the law FnRecordOf, side by side: part 30. -/
import Derived.Laws.MakeOwn
import Derived.Test.YtblcibgphccfkaaGreatDoorMRecordOf29
set_option maxHeartbeats 8000000
set_option maxRecDepth 100000
namespace Go.Proofs.YtblcibgphccfkaaGreatDoor
open Go.RowKit Go.Deep
theorem rep0R (n : Nat) : Lib.repeatL [0] n = List.replicate n (0 : UInt8) := by
 induction n with
 | zero => rfl
 | succ n ih => rw [Lib.repeatL, ih, List.replicate_succ]; rfl
theorem repeat_r (n : Nat) (w : World) (hn : n ≤ 1000000) : Calls Tryz.prog 76 #[.string ⟨#[0]⟩, .int .i64 (n : Int)] w fun e w' => e = .returned (.string ⟨(List.replicate n (0 : UInt8)).toArray⟩) ∧ Below w.heap.size w w' := by
 have := Tryz.strings_Repeat ⟨#[0]⟩ n w (by omega) (by show 1 * _ ≤ _; omega)
 rw [show (⟨#[0]⟩ : ByteArray).data.toList = [0] from rfl, rep0R] at this
 exact this
abbrev zh : Hd := ⟨none, 0, none, 0⟩
theorem made_at (P j : Nat) : (madeCells #[.int .i64 0, .string ByteArray.empty, .slice none 0 0, .int .i64 0, .int .i64 0, .slice none 0 0] (P * 6))[j]? = ((rowOf (List.replicate P (noneNd, zh))).toArray)[j]? := by
 have e : ((rowOf (List.replicate P (noneNd, zh))).toArray)[j]? = (rowOf (List.replicate P (noneNd, zh)))[j]? := by simp
 rw [e, rowOf_get]
 unfold madeCells
 rw [Array.getElem?_map]
 by_cases hj : j < P * 6
 · rw [Array.getElem?_range, if_pos hj, List.getElem?_replicate, if_pos (by omega)]
   have hm : j % 6 = 0 ∨ j % 6 = 1 ∨ j % 6 = 2 ∨ j % 6 = 3 ∨ j % 6 = 4 ∨ j % 6 = 5 := by omega
   simp only [Option.map_some]
   rcases hm with e | e | e | e | e | e <;> (show some (_[j % 6]!) = _; rw [e]; rfl)
 · rw [Array.getElem?_range, if_neg hj, List.getElem?_replicate, if_neg (by omega)]
   rfl
theorem made_row (P : Nat) : madeCells #[.int .i64 0, .string ByteArray.empty, .slice none 0 0, .int .i64 0, .int .i64 0, .slice none 0 0] (P * 6) = (rowOf (List.replicate P (noneNd, zh))).toArray := by
 have hx : ∀ j, (madeCells #[.int .i64 0, .string ByteArray.empty, .slice none 0 0, .int .i64 0, .int .i64 0, .slice none 0 0] (P * 6))[j]? = ((rowOf (List.replicate P (noneNd, zh))).toArray)[j]? := fun j => made_at P j
 exact Array.ext_getElem? hx
theorem run_copy_none (a : Option Addr) (n c : Nat) (ty : TypeId) (w : World) :
 (Builtin.copy_ #[24, 24] ty #[.slice a n c, .slice none 0 0]).run Tryz.prog w = .ok (.int .i64 0) w := by
 obtain ⟨i0, hi, hz0, hz1, hz2⟩ := info_parts infoNd
 cases a with
 | none => simp [Builtin.copy_, run_underlying (P := Tryz.prog) Tryz.underlying24, sizeOf, typeInfo, hi, Builtin.lenOf, run_firstCells_none, goInt]
 | some x => simp [Builtin.copy_, run_underlying (P := Tryz.prog) Tryz.underlying24, sizeOf, typeInfo, hi, Builtin.lenOf, run_firstCells_none, storeCells, goInt]
theorem set_node {W : World} {g : Nat} {A : Option Addr} {len c : Nat} {l : List Fld} {v1 : Value} (Wd P0 : Nat) (D : ByteArray) (G : Option Addr) (P cp : Nat) (h : W.heap[g]? = some (.cells #[.slice A len c, .int .i64 (Wd : Int), .int .i64 (P0 : Int), v1, .int .i64 (tagL l), .int .i64 0, .string ⟨#[]⟩, .slice none 0 0, .int .i64 0, .int .i64 0, .slice none 0 0] recT (0, 0))) :
 ∃ wf, ((((((W.setCell ⟨g, 5, none⟩ (.int .i64 1)).setCell ⟨g, 6, none⟩ (.string D)).setCell ⟨g, 7, none⟩ (.slice G P cp)).setCell ⟨g, 8, none⟩ (.int .i64 0)).setCell ⟨g, 9, none⟩ (.int .i64 0)).setCell ⟨g, 10, none⟩ (.slice none 0 0)) = wf ∧ wf.heap[g]? = some (.cells #[.slice A len c, .int .i64 (Wd : Int), .int .i64 (P0 : Int), v1, .int .i64 (tagL l), .int .i64 1, .string D, .slice G P cp, .int .i64 0, .int .i64 0, .slice none 0 0] recT (0, 0)) ∧ OnlyIn [g] W wf := by
 refine ⟨_, rfl, row_setN (row_setN (row_setN (row_setN (row_setN (row_setN h 5 _) 6 _) 7 _) 8 _) 9 _) 10 _, ?_⟩
 have st : ∀ (V : World) (i : Nat) (v : Value), OnlyIn [g] W V → OnlyIn [g] W (V.setCell ⟨g, i, none⟩ v) := fun V i v hV => hV.trans (OnlyIn.setCell (p := ⟨g, i, none⟩) (by simp) v)
 exact st _ _ _ (st _ _ _ (st _ _ _ (st _ _ _ (st _ _ _ (st _ _ _ (OnlyIn.refl _ _))))))
theorem widen_a (g : Nat) (A : Option Addr) (len c : Nat) (l : List Fld) (v1 : Value) (w : World) (hr : w.heap[g]? = some (.cells #[.slice A len c, .int .i64 ((layF l ps0).2.ls.words : Int), .int .i64 ((layF l ps0).2.ptrs : Int), v1, .int .i64 (tagL l), .int .i64 0, .string ⟨#[]⟩, .slice none 0 0, .int .i64 0, .int .i64 0, .slice none 0 0] recT (0, 0))) (hl : l.length ≤ 12) :
 Calls Tryz.prog 48 #[.pointer (some ⟨g, 0, none⟩)] w fun e w' => e = .returned (.tuple #[]) ∧ ∃ G, RecW w' g A len c l v1 ⟨(List.replicate (8 * (layF l ps0).2.ls.words) (0 : UInt8)).toArray⟩ (some ⟨G, 0, none⟩) (layF l ps0).2.ptrs (layF l ps0).2.ptrs ∧ w'.heap[G]? = some (.cells (rowOf (List.replicate (layF l ps0).2.ptrs (noneNd, zh))).toArray nodeT (0, 0)) ∧ w.heap.size ≤ G ∧ OnlyIn [g] w w' := by
 obtain ⟨i0, hi, hz0, hz1, hz2⟩ := info_parts infoNd
 obtain ⟨hp, hw⟩ := lay_small l
 unfold RecW
 generalize (layF l ps0).2.ptrs = P at *
 generalize (layF l ps0).2.ls.words = Wd at *
 have hmk : ∀ w : World, (Instr.makeSlice nodesT (.int .i64 (P : Int)) (.int .i64 (P : Int))).run Tryz.prog w = .ok (.slice (some ⟨w.heap.size, 0, none⟩) P P) (w.alloc (.cells (rowOf (List.replicate P (noneNd, zh))).toArray nodeT)) := fun w => by
  have := run_make (P := Tryz.prog) w nodesT nodeT i0 (.agg #[.int .i64 0, .string ByteArray.empty, .slice none 0 0, .int .i64 0, .int .i64 0, .slice none 0 0]) Tryz.underlying24 hi hz0 .i64 .i64 (P : Int) (P : Int) (by omega) (Int.le_refl _) (by rw [hz2]; omega) (by omega)
  rw [hz1] at this
  simp only [Int.toNat_natCast] at this
  rw [← made_row]
  exact this
 have HRP := Lib.hid (fun W => repeat_r (8 * Wd) W (by omega))
 have HR := Lib.hid hr
 have hmx : (8 * Wd : Nat) = Wd * 8 := by omega
 have hwr : IntKind.i64.wrap ((Wd : Int) * 8) = (Wd : Int) * 8 := by rw [IntKind.wrap_i64]; omega
 generalize hZ : (⟨(List.replicate (8 * Wd) (0 : UInt8)).toArray⟩ : ByteArray) = Z at *
 have hcat : (⟨#[]⟩ : ByteArray) ++ Z = Z := ext_ba (by simp)
 have hzs : Z.size ≤ 1000 := by rw [← hZ, ba_sz]; simp; omega
 obtain ⟨a0, a1, a2, a3, a4, a5, a6, a7, a8, a9, a10⟩ := cells11 hr
 clear hZ hr
 go_enter Tryz.func48, Tryz.ntmps48
 go_wp2_with fail
 clear a0 a1 a2 a3 a4 a5 a6 a7 a8 a9 a10
 rw [show max (0 : Int) ((Wd : Int) * 8) = ((8 * Wd : Nat) : Int) by omega]
 refine (HRP.out _).mono ?_
 rintro e w1 ⟨rfl, hb1⟩
 have HB1 := Lib.hid hb1
 have HR1 := Lib.hid ((hb1.block _ (row_lt HR.out)).trans HR.out)
 clear hb1
 obtain ⟨a0, a1, a2, a3, a4, a5, a6, a7, a8, a9, a10⟩ := cells11 HR1.out
 have hmp : max (P : Int) 0 = (P : Int) := by omega
 have hcp := run_copy_none
 have zf := row_free HR1.out
 go_wp2_with fail
 go_region
 clear a0 a1 a2 a3 a4 a5 a6 a7 a8 a9 a10 zf
 obtain ⟨G, hG⟩ : ∃ G, G = w1.heap.size := ⟨_, rfl⟩
 have hba : Below w1.heap.size w1 (w1.alloc (.cells (rowOf (List.replicate P (noneNd, zh))).toArray nodeT)).drew := ((Below.refl _ _).alloc (Nat.le_refl _) _).drew
 have HRW : Hid ((w1.alloc (.cells (rowOf (List.replicate P (noneNd, zh))).toArray nodeT)).drew.heap[G]? = some (.cells (rowOf (List.replicate P (noneNd, zh))).toArray nodeT (0, 0))) := Lib.hid (hG ▸ heap_alloc_new w1 _)
 have HGE : Hid (w.heap.size ≤ G) := Lib.hid (by rw [hG]; exact HB1.out.size)
 have HB2 := Lib.hid (HB1.out.trans (hba.mono HB1.out.size))
 have HR2 := Lib.hid ((hba.block _ (row_lt HR1.out)).trans HR1.out)
 have HGL : Hid (g < w.heap.size) := Lib.hid (row_lt HR.out)
 rw [← hG]
 clear hba hG
 generalize (w1.alloc (.cells (rowOf (List.replicate P (noneNd, zh))).toArray nodeT)).drew = W2 at *
 obtain ⟨a0, a1, a2, a3, a4, a5, a6, a7, a8, a9, a10⟩ := cells11 HR2.out
 have zf := row_free HR2.out
 go_wp2_with fail
 clear a0 a1 a2 a3 a4 a5 a6 a7 a8 a9 a10 zf
 obtain ⟨wf, hwf, hrw, hof⟩ := set_node Wd P Z (some ⟨G, 0, none⟩) P P HR2.out
 try rw [hwf]
 have HRF := Lib.hid hrw
 have HOF := Lib.hid ((OnlyIn.of_below (bs := [g]) HB2.out).trans hof)
 have HGF := Lib.hid ((hof.block _ (row_lt HRW.out) (by have := HGE.out; have := HGL.out; simp; omega)).trans HRW.out)
 clear hwf hrw hof
 go_end0
 exact ⟨rfl, G, HRF.out, HGF.out, HGE.out, HOF.out⟩
theorem none_okR {n : Nd} (hk : n.kind = 0) : nodeOk n = noneB n.data n.ptrs.length n.size n.count n.items.length := by
 obtain ⟨k, d, p, s, c, i⟩ := n
 obtain rfl : k = 0 := hk
 cases hB : noneB d p.length s c i.length
 · cases hO : nodeOk (.mk 0 d p s c i)
   · exact hB.symm
   · have h8 : okN 8 (.mk 0 d p s c i) = true := by unfold nodeOk at hO; rw [Bool.and_eq_true] at hO; exact hO.1
     have hf : formN (.mk 0 d p s c i) = true := by
      cases hf : formN (.mk 0 d p s c i) with
      | true => rfl
      | false => rw [ok_form hf] at h8; cases h8
     have e := none_eq hf rfl
     unfold noneNd at e
     injection e with e1 e2 e3 e4 e5 e6
     subst e2 e3 e4 e5 e6
     exact absurd hB (by decide)
 · have e : (Nd.mk 0 d p s c i) = noneNd := by
    simp only [noneB, Bool.and_eq_true, beq_iff_eq] at hB
    obtain ⟨⟨⟨⟨h1, h2⟩, h3⟩, h4⟩, h5⟩ := hB
    rw [data_nil h1, nil_of_len h2, h3, h4, nil_of_len h5]
    rfl
   rw [e]
   have h9 : nodeOk noneNd = true := by decide
   rw [h9]
   rfl
theorem mayBe_a (f : Fld) (v : Vl) (h : Hd) (m : Nat) (w : World) (S : Nat → Prop) (hz : 1 ≤ f.size ∧ f.size ≤ 6) (hn : NdAt w S m v.nd h) (htn : totN m v.nd ≤ 2000000) :
 Calls Tryz.prog 75 #[.agg #[.int .i64 f.size, .bool f.choice, .int .i64 f.els], .agg #[.int .i64 v.num, .int .i64 v.nd.kind, .string v.nd.data, .slice h.A v.nd.ptrs.length h.a, .int .i64 v.nd.size, .int .i64 v.nd.count, .slice h.B v.nd.items.length h.b]] w fun e w' => e = .returned (.bool (valB f v)) ∧ Below w.heap.size w w' := by
 have q0 := al_first w (.cells #[.int .i64 f.size, .bool f.choice, .int .i64 f.els] 41)
 have q1 := al_next q0 (.cells #[.int .i64 v.num, .int .i64 v.nd.kind, .string v.nd.data, .slice h.A v.nd.ptrs.length h.a, .int .i64 v.nd.size, .int .i64 v.nd.count, .slice h.B v.nd.items.length h.b] valT)
 have r0 := heap_alloc_keep (heap_alloc_new w (.cells #[.int .i64 f.size, .bool f.choice, .int .i64 f.els] 41)) (.cells #[.int .i64 v.num, .int .i64 v.nd.kind, .string v.nd.data, .slice h.A v.nd.ptrs.length h.a, .int .i64 v.nd.size, .int .i64 v.nd.count, .slice h.B v.nd.items.length h.b] valT)
 have r1 := al_row q0 #[.int .i64 v.num, .int .i64 v.nd.kind, .string v.nd.data, .slice h.A v.nd.ptrs.length h.a, .int .i64 v.nd.size, .int .i64 v.nd.count, .slice h.B v.nd.items.length h.b] valT
 have HB0 := Lib.hid q1.2
 have HNO := Lib.hid (fun (W : World) (hW : Below w.heap.size w W) => implNodeOk_a m v.nd h W S (hn.below hW) htn)
 have HFT := Lib.hid (fun W : World => fitsSize_any f.size v.num W hz.1 hz.2)
 have HNK := Lib.hid (fun hk : v.nd.kind = 0 => none_okR hk)
 have R1 := Lib.hid r1
 obtain ⟨z, fc, el⟩ := f
 obtain ⟨x, n⟩ := v
 dsimp only at *
 obtain ⟨a0, a1, a2⟩ := cells3R r0
 obtain ⟨b0, b1, b2, b3, b4, b5, b6⟩ := cellsV r1
 clear q0 q1 r0 r1 hn htn
 by_cases h6 : z = 6
 · subst h6
   by_cases hx : x = 0
   · have HX : Hid (valB ⟨6, fc, el⟩ ⟨x, n⟩ = nodeOk n) := Lib.hid (by unfold valB; rw [if_pos rfl]; simp [hx])
     subst hx
     go_enter Tryz.func75, Tryz.ntmps75
     go_wp2_with fail
     refine (HNO.out _ HB0.out).mono ?_
     rintro e w1 ⟨rfl, hb1⟩
     have HB1 := Lib.hid (HB0.out.trans (hb1.mono HB0.out.size))
     clear hb1
     go_wp2
     go_ret
     exact ⟨by rw [HX.out]; rfl, HB1.out⟩
   · have HX : Hid (valB ⟨6, fc, el⟩ ⟨x, n⟩ = false) := Lib.hid (by unfold valB; rw [if_pos rfl]; simp [hx])
     have hx0 : (x == 0) = false := by simpa using hx
     clear hx
     go_enter Tryz.func75, Tryz.ntmps75
     go_wp2_with fail
     go_ret
     exact ⟨by rw [HX.out]; rfl, HB0.out⟩
 · have hz6 : (z == 6) = false := by simpa using h6
   have hv : valB ⟨z, fc, el⟩ ⟨x, n⟩ = (fitB z x && (decide (n.kind = 0) && nodeOk n)) := by unfold valB; rw [if_neg h6]
   have HV := Lib.hid hv
   clear hv h6
   cases hft : fitB z x
   · rw [hft] at HFT HV
     clear hft
     go_enter Tryz.func75, Tryz.ntmps75
     go_wp2_with (go_at_call 68; refine (HFT.out _).mono ?_; rintro e w' ⟨rfl, rfl⟩)
     go_ret
     exact ⟨by rw [HV.out]; rfl, HB0.out⟩
   · rw [hft] at HFT HV
     clear hft
     by_cases hk : n.kind = 0
     · have hno := HNK.out hk
       have HX : Hid (valB ⟨z, fc, el⟩ ⟨x, n⟩ = noneB n.data n.ptrs.length n.size n.count n.items.length) := Lib.hid (by rw [HV.out, decide_eq_true hk, hno]; rfl)
       have hk0 : (n.kind == 0) = true := by simpa using hk
       clear hk hno
       go_enter Tryz.func75, Tryz.ntmps75
       go_wp2_with (go_at_call 68; refine (HFT.out _).mono ?_; rintro e w' ⟨rfl, rfl⟩)
       refine (isNothing_any _ _ _ _ _ _ _ _ _ _ _).mono ?_
       rintro e w1 ⟨rfl, hb1⟩
       have HB1 := Lib.hid (HB0.out.trans (hb1.mono HB0.out.size))
       clear hb1
       go_wp2
       go_ret
       exact ⟨by rw [HX.out]; rfl, HB1.out⟩
     · have HX : Hid (valB ⟨z, fc, el⟩ ⟨x, n⟩ = false) := Lib.hid (by rw [HV.out, decide_eq_false hk]; rfl)
       have hk0 : (n.kind == 0) = false := by simpa using hk
       clear hk
       go_enter Tryz.func75, Tryz.ntmps75
       go_wp2_with (go_at_call 68; refine (HFT.out _).mono ?_; rintro e w' ⟨rfl, rfl⟩)
       go_ret
       exact ⟨by rw [HX.out]; rfl, HB0.out⟩
theorem placeOf_x (x : Addr) (c : Nat) (l : List Fld) (k : Nat) (hk : k ≤ l.length) (hc : l.length ≤ c) (w : World) (h : Flds w (some x) l) (hl : l.length ≤ 12) :
 Calls Tryz.prog 30 #[.slice (some x) l.length c, .int .i64 (k : Int)] w fun e w' => e = .returned (.int .i64 (plcN l k : Nat)) ∧ Below w.heap.size w w' := by
 have HF := Lib.hid h
 have hkc : k ≤ c := by omega
 have hk12 : k ≤ 12 := by omega
 clear h
 go_enter Tryz.func30, Tryz.ntmps30
 go_wp2
 go_loopw [5, 12] (fun q i wr => ∃ (j u : Nat), i = .int .i64 (j : Int) ∧ q = .int .i64 (u : Int) ∧ j ≤ k ∧ u ≤ 12 ∧ Hid (u = plcN l j) ∧ Hid (Below w.heap.size w wr)) (fun _ i _ => k - (intOf i).toNat)
 case atStart => exact ⟨0, 0, rfl, rfl, by omega, by omega, Lib.hid rfl, Lib.hid (Below.refl _ _)⟩
 case round =>
  obtain ⟨j, u, rfl, rfl, hj, hu, HU, HB⟩ := hrel
  by_cases hlt : j < k
  · obtain ⟨x', hx', hxb', hx⟩ := (HF.out.below HB.out).at2 (k := j) (by omega)
    obtain rfl := Option.some.inj hx'
    have HTK := Lib.hid (plc_succ (l := l) (j := j) (by omega))
    have HP := Lib.hid (plc_le l (j + 1))
    generalize l[j] = f at hx HTK
    obtain ⟨z, fc, el⟩ := f
    obtain ⟨c0, c1, c2⟩ := hx
    have HB2 := Lib.hid (HB.out.alloc HB.out.size (.cells #[.int .i64 z, .bool fc, .int .i64 el] 41))
    cases fc
    · go_wp2
      go_roundw
      case rel => exact ⟨j + 1, u, by go_num, rfl, by omega, by omega, Lib.hid (by rw [HTK.out, HU.out]; rfl), HB2⟩
      case measure => simp [intOf]; omega
    · have hu1 : u + 1 ≤ 12 := by have h1 := HP.out; have h2 := HTK.out; have h3 := HU.out; simp at h2; omega
      go_wp2
      go_roundw
      case rel => exact ⟨j + 1, u + 1, by go_num, by go_num, by omega, hu1, Lib.hid (by rw [HTK.out, HU.out]; rfl), HB2⟩
      case measure => simp [intOf]; omega
  · obtain rfl : j = k := by omega
    go_wp2
    go_ret
    exact ⟨by rw [← HU.out]; rfl, HB.out⟩
theorem VAt.cells {w : World} {S : Nat → Prop} {m : Nat} {p : Addr} {v : Vl} {h : Hd} (a : VAt w S m p v h) : w.cell? p = some (.int .i64 v.num) ∧ w.cell? ⟨p.block, p.off + 1, none⟩ = some (.int .i64 v.nd.kind) ∧ w.cell? ⟨p.block, p.off + 2, none⟩ = some (.string v.nd.data) ∧ w.cell? ⟨p.block, p.off + 3, none⟩ = some (.slice h.A v.nd.ptrs.length h.a) ∧ w.cell? ⟨p.block, p.off + 4, none⟩ = some (.int .i64 v.nd.size) ∧ w.cell? ⟨p.block, p.off + 5, none⟩ = some (.int .i64 v.nd.count) ∧ w.cell? ⟨p.block, p.off + 6, none⟩ = some (.slice h.B v.nd.items.length h.b) :=
 ⟨a.num, a.cell.c0, a.cell.c1, a.cell.c2, a.cell.c3, a.cell.c4, a.cell.c5⟩
theorem vals_out {l : List Fld} {vs : List Vl} {k : Nat} (hk : k < l.length) (h : valsB l vs (k + 1) = false) : valsB l vs l.length = false := by
 have : ∀ j, k + 1 ≤ j → valsB l vs j = false := by
  intro j hj
  induction j with
  | zero => omega
  | succ j ih =>
   rcases Nat.lt_or_ge k j with h1 | h1
   · show (valsB l vs j && _) = false
     rw [ih (by omega)]; rfl
   · obtain rfl : j = k := by omega
     exact h
 exact this _ (by omega)
theorem allMayBe_a (A B : Option Addr) (c cb : Nat) (l : List Fld) (vs : List Vl) (m : Nat) (w : World) (S : Nat → Prop) (hl : Flds w A l) (hll : l.length ≤ 12) (hz : ∀ k (hk : k < l.length), 1 ≤ (l[k]).size ∧ (l[k]).size ≤ 6) (hvs : ValsAt w S m B vs) (hvl : vs.length ≤ 10000000) (htn : ∀ v ∈ vs, totN m v.nd ≤ 2000000) :
 Calls Tryz.prog 46 #[.slice A l.length c, .slice B vs.length cb] w fun e w' => e = .returned (.bool (decide (vs.length = l.length) && valsB l vs l.length)) ∧ Below w.heap.size w w' := by
 by_cases hlen : vs.length = l.length
 case neg =>
  have HX : Hid ((decide (vs.length = l.length) && valsB l vs l.length) = false) := Lib.hid (by rw [decide_eq_false hlen]; rfl)
  have hne : (((vs.length : Nat) : Int) != ((l.length : Nat) : Int)) = true := by simp; omega
  clear hlen hl hz hvs htn
  go_enter Tryz.func46, Tryz.ntmps46
  go_wp2
  go_ret
  exact ⟨by rw [HX.out]; rfl, Below.refl _ _⟩
 have HX : Hid ((decide (vs.length = l.length) && valsB l vs l.length) = valsB l vs l.length) := Lib.hid (by rw [decide_eq_true hlen]; rfl)
 have hne : (((vs.length : Nat) : Int) != ((l.length : Nat) : Int)) = false := by simp; omega
 have HLN := Lib.hid hlen
 have HF := Lib.hid hl
 have HV := Lib.hid hvs
 have HZ := Lib.hid hz
 have HTN := Lib.hid htn
 clear hlen hl hz hvs htn
 go_enter Tryz.func46, Tryz.ntmps46
 go_wp2
 go_loopw [14] (fun i wr => ∃ k : Nat, i = .int .i64 (k : Int) ∧ k ≤ l.length ∧ Hid (valsB l vs k = true) ∧ Hid (Below w.heap.size w wr)) (fun i _ => l.length - (intOf i).toNat)
 case atStart => exact ⟨0, rfl, by omega, Lib.hid rfl, Lib.hid (Below.refl _ _)⟩
 case round =>
  obtain ⟨k, rfl, hk, HO, HB⟩ := hrel
  by_cases hlt : k < l.length
  · obtain ⟨xa, rfl, hxab, hxa⟩ := (HF.out.below HB.out).at2 hlt
    have hkv : k < vs.length := by rw [HLN.out]; exact hlt
    obtain ⟨x, hv, rfl, hxb, hva⟩ := HV.out.at_ hkv
    have HST : Hid (valsB l vs (k + 1) = valB (fldK l k) (vlK vs k)) := Lib.hid (by show (valsB l vs k && valB (fldK l k) (vlK vs k)) = _; rw [HO.out]; rfl)
    have hzk := HZ.out k hlt
    have htk := HTN.out _ (List.getElem_mem hkv)
    rw [fldK_at hlt, vlK_at hkv] at HST
    have hkv2 : ((k : Nat) : Int) < vs.length := by omega
    have HVA := Lib.hid hva
    obtain ⟨z, fc, el, hf⟩ : ∃ z fc el, l[k] = Fld.mk z fc el := ⟨_, _, _, rfl⟩
    obtain ⟨n9, d9, hd9⟩ : ∃ n9 d9, vs[k] = Vl.mk n9 d9 := ⟨_, _, rfl⟩
    rw [hf] at hxa hzk HST
    rw [hd9] at HST htk HVA
    obtain ⟨c0, c1, c2⟩ := hxa
    have HMB : Hid (∀ W : World, Below w.heap.size w W → Calls Tryz.prog 75 #[.agg #[.int .i64 z, .bool fc, .int .i64 el], .agg #[.int .i64 n9, .int .i64 d9.kind, .string d9.data, .slice hv.A d9.ptrs.length hv.a, .int .i64 d9.size, .int .i64 d9.count, .slice hv.B d9.items.length hv.b]] W fun e w' => e = .returned (.bool (valB ⟨z, fc, el⟩ ⟨n9, d9⟩)) ∧ Below W.heap.size W w') := Lib.hid fun W hW => mayBe_a ⟨z, fc, el⟩ ⟨n9, d9⟩ hv m W S hzk (HVA.out.nd.below hW) htk
    have HS7 : Hid (∀ V : World, Below w.heap.size w V → V.cell? (x.add (k * 7)) = some (.int .i64 n9) ∧ V.cell? ⟨(x.add (k * 7)).block, (x.add (k * 7)).off + 1, none⟩ = some (.int .i64 d9.kind) ∧ V.cell? ⟨(x.add (k * 7)).block, (x.add (k * 7)).off + 2, none⟩ = some (.string d9.data) ∧ V.cell? ⟨(x.add (k * 7)).block, (x.add (k * 7)).off + 3, none⟩ = some (.slice hv.A d9.ptrs.length hv.a) ∧ V.cell? ⟨(x.add (k * 7)).block, (x.add (k * 7)).off + 4, none⟩ = some (.int .i64 d9.size) ∧ V.cell? ⟨(x.add (k * 7)).block, (x.add (k * 7)).off + 5, none⟩ = some (.int .i64 d9.count) ∧ V.cell? ⟨(x.add (k * 7)).block, (x.add (k * 7)).off + 6, none⟩ = some (.slice hv.B d9.items.length hv.b)) := Lib.hid fun V hV => (HVA.out.below hV).cells
    have GA := Lib.hid (heap_alloc_new wr (.cells #[.int .i64 z, .bool fc, .int .i64 el] 41))
    have HB2 : Hid (Below w.heap.size w (wr.alloc (.cells #[.int .i64 z, .bool fc, .int .i64 el] 41))) := Lib.hid (HB.out.alloc HB.out.size (.cells #[.int .i64 z, .bool fc, .int .i64 el] 41))
    clear hva htk hzk hf hd9
    cases hvb : valB ⟨z, fc, el⟩ ⟨n9, d9⟩
    · rw [hvb] at HMB HST
      clear hvb
      have HXF : Hid (valsB l vs l.length = false) := Lib.hid (vals_out hlt HST.out)
      go_wp2_with fail
      clear c0 c1 c2
      obtain ⟨gp, hgp⟩ : ∃ gp, gp = wr.heap.size := ⟨_, rfl⟩
      rw [← hgp] at GA ⊢
      clear hgp
      generalize wr.alloc (.cells #[.int .i64 z, .bool fc, .int .i64 el] 41) = W4 at *
      have HDR : Hid (Below W4.heap.size W4 W4.drew) := Lib.hid ⟨rfl, rfl, rfl, Nat.le_refl _, fun _ _ => rfl⟩
      have G0 : Hid (W4.drew.heap[gp]? = some (.cells #[.int .i64 z, .bool fc, .int .i64 el] 41 (0, 0))) := Lib.hid GA.out
      refine wp_region_held_drew (S := (fun V => V.heap[gp]? = some (.cells #[.int .i64 z, .bool fc, .int .i64 el] 41 (0, 0)) ∧ V.cell? (x.add (k * 7)) = some (.int .i64 n9) ∧ V.cell? ⟨(x.add (k * 7)).block, (x.add (k * 7)).off + 1, none⟩ = some (.int .i64 d9.kind) ∧ V.cell? ⟨(x.add (k * 7)).block, (x.add (k * 7)).off + 2, none⟩ = some (.string d9.data) ∧ V.cell? ⟨(x.add (k * 7)).block, (x.add (k * 7)).off + 3, none⟩ = some (.slice hv.A d9.ptrs.length hv.a) ∧ V.cell? ⟨(x.add (k * 7)).block, (x.add (k * 7)).off + 4, none⟩ = some (.int .i64 d9.size) ∧ V.cell? ⟨(x.add (k * 7)).block, (x.add (k * 7)).off + 5, none⟩ = some (.int .i64 d9.count) ∧ V.cell? ⟨(x.add (k * 7)).block, (x.add (k * 7)).off + 6, none⟩ = some (.slice hv.B d9.items.length hv.b))) (by kernel_rfl) ?_ (fun hH0 => ?_)
      · exact ⟨G0.out, HS7.out _ (HB2.out.trans (HDR.out.mono HB2.out.size))⟩
      refine wpAnyH_take (i := 0) (v := .agg #[.int .i64 z, .bool fc, .int .i64 el]) rfl (by kernel_rfl) (by kernel_rfl) (by kernel_rfl) (fun _ _ _ h => h) (Or.inl ⟨by rfl, ?_⟩) (by assumption) ?_
      · intro w hSw
        obtain ⟨f, y0, y1, y2, y3, y4, y5, y6⟩ := hSw
        obtain ⟨f0, f1, f2⟩ := cells3R f
        go_simp
      try simp only [List.getElem_toArray, List.getElem_cons_succ, List.getElem_cons_zero, Act.put, List.setIfInBounds_toArray, List.set_cons_zero, List.set_cons_succ]
      refine wpAnyH_take (i := 1) (v := ?_) rfl (by kernel_rfl) (by kernel_rfl) (by kernel_rfl) (fun _ _ _ h => h) (Or.inl ⟨by rfl, ?_⟩) (by assumption) ?_
      rotate_left
      · intro w hSw
        (try dsimp only at hSw)
        obtain ⟨f, y0, y1, y2, y3, y4, y5, y6⟩ := hSw
        obtain ⟨f0, f1, f2⟩ := cells3R f
        go_simp
        try with_reducible rfl
      try simp only [List.getElem_toArray, List.getElem_cons_succ, List.getElem_cons_zero, Act.put, List.setIfInBounds_toArray, List.set_cons_zero, List.set_cons_succ]
      refine wpAnyH_take (i := 2) (v := ?_) rfl (by kernel_rfl) (by kernel_rfl) (by kernel_rfl) (fun _ _ _ h => h) (Or.inl ⟨by rfl, ?_⟩) (by assumption) ?_
      rotate_left
      · intro w hSw
        (try dsimp only at hSw)
        obtain ⟨f, y0, y1, y2, y3, y4, y5, y6⟩ := hSw
        obtain ⟨f0, f1, f2⟩ := cells3R f
        go_simp
        try with_reducible rfl
      try simp only [List.getElem_toArray, List.getElem_cons_succ, List.getElem_cons_zero, Act.put, List.setIfInBounds_toArray, List.set_cons_zero, List.set_cons_succ]
      refine wpAnyH_take (i := 3) (v := ?_) rfl (by kernel_rfl) (by kernel_rfl) (by kernel_rfl) (fun _ _ _ h => h) (Or.inl ⟨by rfl, ?_⟩) (by assumption) ?_
      rotate_left
      · intro w hSw
        (try dsimp only at hSw)
        obtain ⟨f, y0, y1, y2, y3, y4, y5, y6⟩ := hSw
        obtain ⟨f0, f1, f2⟩ := cells3R f
        go_simp
        try with_reducible rfl
      try simp only [List.getElem_toArray, List.getElem_cons_succ, List.getElem_cons_zero, Act.put, List.setIfInBounds_toArray, List.set_cons_zero, List.set_cons_succ]
      refine wpAnyH_take (i := 4) (v := .agg #[.int .i64 n9, .int .i64 d9.kind, .string d9.data, .slice hv.A d9.ptrs.length hv.a, .int .i64 d9.size, .int .i64 d9.count, .slice hv.B d9.items.length hv.b]) rfl (by kernel_rfl) (by kernel_rfl) (by kernel_rfl) (fun _ _ _ h => h) (Or.inl ⟨by rfl, ?_⟩) (by assumption) ?_
      · intro w hSw
        obtain ⟨f, y0, y1, y2, y3, y4, y5, y6⟩ := hSw
        obtain ⟨f0, f1, f2⟩ := cells3R f
        go_simp
      try simp only [List.getElem_toArray, List.getElem_cons_succ, List.getElem_cons_zero, Act.put, List.setIfInBounds_toArray, List.set_cons_zero, List.set_cons_succ]
      refine wpAnyH_ready (rs := [5]) (by kernel_rfl) (by simp) ?_
      refine AllReadyH.cons rfl (fun K hK => ?_) AllReadyH.nil
      go_simp
      go_at_call 75
      refine (HMB.out _ (HB2.out.trans (HDR.out.mono HB2.out.size))).mono ?_
      rintro e w3 ⟨rfl, hb3⟩
      have HB3 := Lib.hid ((HB2.out.trans (HDR.out.mono HB2.out.size)).trans (hb3.mono (HB2.out.trans (HDR.out.mono HB2.out.size)).size))
      have v0 := (hb3.block _ (row_lt G0.out)).trans G0.out
      clear hb3
      go_wp2_with fail
      refine hK.out _ _ ⟨v0, HS7.out _ HB3.out⟩ (fun hHn => ?_)
      clear hK K hH0 v0
      try simp only [List.getElem_toArray, List.getElem_cons_succ, List.getElem_cons_zero, Act.put, List.setIfInBounds_toArray, List.set_cons_zero, List.set_cons_succ]
      refine wpAnyH_take (i := 6) (v := ?_) rfl (by kernel_rfl) (by kernel_rfl) (by kernel_rfl) (fun _ _ _ h => h) (Or.inl ⟨by rfl, ?_⟩) (by assumption) ?_
      rotate_left
      · intro w hSw
        (try dsimp only at hSw)
        obtain ⟨f, y0, y1, y2, y3, y4, y5, y6⟩ := hSw
        obtain ⟨f0, f1, f2⟩ := cells3R f
        go_simp
        try with_reducible rfl
      try simp only [List.getElem_toArray, List.getElem_cons_succ, List.getElem_cons_zero, Act.put, List.setIfInBounds_toArray, List.set_cons_zero, List.set_cons_succ]
      refine wpAnyH_done (by kernel_rfl) ?_ _
      clear hHn
      go_wp2
      go_ret
      exact ⟨by rw [HX.out, HXF.out]; rfl, HB3.out⟩
    · rw [hvb] at HMB HST
      clear hvb
      go_wp2_with fail
      clear c0 c1 c2
      obtain ⟨gp, hgp⟩ : ∃ gp, gp = wr.heap.size := ⟨_, rfl⟩
      rw [← hgp] at GA ⊢
      clear hgp
      generalize wr.alloc (.cells #[.int .i64 z, .bool fc, .int .i64 el] 41) = W4 at *
      have HDR : Hid (Below W4.heap.size W4 W4.drew) := Lib.hid ⟨rfl, rfl, rfl, Nat.le_refl _, fun _ _ => rfl⟩
      have G0 : Hid (W4.drew.heap[gp]? = some (.cells #[.int .i64 z, .bool fc, .int .i64 el] 41 (0, 0))) := Lib.hid GA.out
      refine wp_region_held_drew (S := (fun V => V.heap[gp]? = some (.cells #[.int .i64 z, .bool fc, .int .i64 el] 41 (0, 0)) ∧ V.cell? (x.add (k * 7)) = some (.int .i64 n9) ∧ V.cell? ⟨(x.add (k * 7)).block, (x.add (k * 7)).off + 1, none⟩ = some (.int .i64 d9.kind) ∧ V.cell? ⟨(x.add (k * 7)).block, (x.add (k * 7)).off + 2, none⟩ = some (.string d9.data) ∧ V.cell? ⟨(x.add (k * 7)).block, (x.add (k * 7)).off + 3, none⟩ = some (.slice hv.A d9.ptrs.length hv.a) ∧ V.cell? ⟨(x.add (k * 7)).block, (x.add (k * 7)).off + 4, none⟩ = some (.int .i64 d9.size) ∧ V.cell? ⟨(x.add (k * 7)).block, (x.add (k * 7)).off + 5, none⟩ = some (.int .i64 d9.count) ∧ V.cell? ⟨(x.add (k * 7)).block, (x.add (k * 7)).off + 6, none⟩ = some (.slice hv.B d9.items.length hv.b))) (by kernel_rfl) ?_ (fun hH0 => ?_)
      · exact ⟨G0.out, HS7.out _ (HB2.out.trans (HDR.out.mono HB2.out.size))⟩
      refine wpAnyH_take (i := 0) (v := .agg #[.int .i64 z, .bool fc, .int .i64 el]) rfl (by kernel_rfl) (by kernel_rfl) (by kernel_rfl) (fun _ _ _ h => h) (Or.inl ⟨by rfl, ?_⟩) (by assumption) ?_
      · intro w hSw
        obtain ⟨f, y0, y1, y2, y3, y4, y5, y6⟩ := hSw
        obtain ⟨f0, f1, f2⟩ := cells3R f
        go_simp
      try simp only [List.getElem_toArray, List.getElem_cons_succ, List.getElem_cons_zero, Act.put, List.setIfInBounds_toArray, List.set_cons_zero, List.set_cons_succ]
      refine wpAnyH_take (i := 1) (v := ?_) rfl (by kernel_rfl) (by kernel_rfl) (by kernel_rfl) (fun _ _ _ h => h) (Or.inl ⟨by rfl, ?_⟩) (by assumption) ?_
      rotate_left
      · intro w hSw
        (try dsimp only at hSw)
        obtain ⟨f, y0, y1, y2, y3, y4, y5, y6⟩ := hSw
        obtain ⟨f0, f1, f2⟩ := cells3R f
        go_simp
        try with_reducible rfl
      try simp only [List.getElem_toArray, List.getElem_cons_succ, List.getElem_cons_zero, Act.put, List.setIfInBounds_toArray, List.set_cons_zero, List.set_cons_succ]
      refine wpAnyH_take (i := 2) (v := ?_) rfl (by kernel_rfl) (by kernel_rfl) (by kernel_rfl) (fun _ _ _ h => h) (Or.inl ⟨by rfl, ?_⟩) (by assumption) ?_
      rotate_left
      · intro w hSw
        (try dsimp only at hSw)
        obtain ⟨f, y0, y1, y2, y3, y4, y5, y6⟩ := hSw
        obtain ⟨f0, f1, f2⟩ := cells3R f
        go_simp
        try with_reducible rfl
      try simp only [List.getElem_toArray, List.getElem_cons_succ, List.getElem_cons_zero, Act.put, List.setIfInBounds_toArray, List.set_cons_zero, List.set_cons_succ]
      refine wpAnyH_take (i := 3) (v := ?_) rfl (by kernel_rfl) (by kernel_rfl) (by kernel_rfl) (fun _ _ _ h => h) (Or.inl ⟨by rfl, ?_⟩) (by assumption) ?_
      rotate_left
      · intro w hSw
        (try dsimp only at hSw)
        obtain ⟨f, y0, y1, y2, y3, y4, y5, y6⟩ := hSw
        obtain ⟨f0, f1, f2⟩ := cells3R f
        go_simp
        try with_reducible rfl
      try simp only [List.getElem_toArray, List.getElem_cons_succ, List.getElem_cons_zero, Act.put, List.setIfInBounds_toArray, List.set_cons_zero, List.set_cons_succ]
      refine wpAnyH_take (i := 4) (v := .agg #[.int .i64 n9, .int .i64 d9.kind, .string d9.data, .slice hv.A d9.ptrs.length hv.a, .int .i64 d9.size, .int .i64 d9.count, .slice hv.B d9.items.length hv.b]) rfl (by kernel_rfl) (by kernel_rfl) (by kernel_rfl) (fun _ _ _ h => h) (Or.inl ⟨by rfl, ?_⟩) (by assumption) ?_
      · intro w hSw
        obtain ⟨f, y0, y1, y2, y3, y4, y5, y6⟩ := hSw
        obtain ⟨f0, f1, f2⟩ := cells3R f
        go_simp
      try simp only [List.getElem_toArray, List.getElem_cons_succ, List.getElem_cons_zero, Act.put, List.setIfInBounds_toArray, List.set_cons_zero, List.set_cons_succ]
      refine wpAnyH_ready (rs := [5]) (by kernel_rfl) (by simp) ?_
      refine AllReadyH.cons rfl (fun K hK => ?_) AllReadyH.nil
      go_simp
      go_at_call 75
      refine (HMB.out _ (HB2.out.trans (HDR.out.mono HB2.out.size))).mono ?_
      rintro e w3 ⟨rfl, hb3⟩
      have HB3 := Lib.hid ((HB2.out.trans (HDR.out.mono HB2.out.size)).trans (hb3.mono (HB2.out.trans (HDR.out.mono HB2.out.size)).size))
      have v0 := (hb3.block _ (row_lt G0.out)).trans G0.out
      clear hb3
      go_wp2_with fail
      refine hK.out _ _ ⟨v0, HS7.out _ HB3.out⟩ (fun hHn => ?_)
      clear hK K hH0 v0
      try simp only [List.getElem_toArray, List.getElem_cons_succ, List.getElem_cons_zero, Act.put, List.setIfInBounds_toArray, List.set_cons_zero, List.set_cons_succ]
      refine wpAnyH_take (i := 6) (v := ?_) rfl (by kernel_rfl) (by kernel_rfl) (by kernel_rfl) (fun _ _ _ h => h) (Or.inl ⟨by rfl, ?_⟩) (by assumption) ?_
      rotate_left
      · intro w hSw
        (try dsimp only at hSw)
        obtain ⟨f, y0, y1, y2, y3, y4, y5, y6⟩ := hSw
        obtain ⟨f0, f1, f2⟩ := cells3R f
        go_simp
        try with_reducible rfl
      try simp only [List.getElem_toArray, List.getElem_cons_succ, List.getElem_cons_zero, Act.put, List.setIfInBounds_toArray, List.set_cons_zero, List.set_cons_succ]
      refine wpAnyH_done (by kernel_rfl) ?_ _
      clear hHn
      go_wp2
      go_roundw
      case rel => exact ⟨k + 1, by go_num, by omega, HST, HB3⟩
      case measure => simp [intOf]; omega
  · obtain rfl : k = l.length := by omega
    go_wp2
    go_ret
    exact ⟨by rw [HX.out, HO.out]; rfl, HB.out⟩
theorem isChoice_a (x : Addr) (c : Nat) (l : List Fld) (ch : Int) (w : World) (h : Flds w (some x) l) (hl : l.length ≤ 12) (hc : l.length ≤ c) :
 Calls Tryz.prog 47 #[.slice (some x) l.length c, .int .i64 ch] w fun e w' => e = .returned (.bool (chB l ch)) ∧ Below w.heap.size w w' := by
 have HP := Lib.hid (placeOf_x x c l l.length (Nat.le_refl _) hc w h hl)
 have hp := plc_le l l.length
 unfold chB
 generalize plcN l l.length = p at *
 clear h
 by_cases h0 : p = 0
 · subst h0
   rw [if_pos rfl]
   have HD : Hid (decide (ch = -1) = (ch == -1)) := Lib.hid (by rw [Bool.eq_iff_iff]; simp)
   go_enter Tryz.func47, Tryz.ntmps47
   go_wp2_with fail
   refine HP.out.mono ?_
   rintro e w1 ⟨rfl, hb1⟩
   have HB1 := Lib.hid hb1
   clear hb1
   go_wp2
   go_ret
   exact ⟨by rw [HD.out]; rfl, HB1.out⟩
 · rw [if_neg h0]
   have hp0 : (((p : Nat) : Int) == 0) = false := by simp; omega
   clear h0
   go_enter Tryz.func47, Tryz.ntmps47
   go_wp2_with fail
   refine HP.out.mono ?_
   rintro e w1 ⟨rfl, hb1⟩
   have HB1 := Lib.hid hb1
   clear hb1
   go_wp2_with (go_at_call 27; refine (within_any _ _ _).mono ?_; rintro e w' ⟨rfl, rfl⟩)
   go_ret
   exact ⟨rfl, HB1.out⟩
end Go.Proofs.YtblcibgphccfkaaGreatDoor
