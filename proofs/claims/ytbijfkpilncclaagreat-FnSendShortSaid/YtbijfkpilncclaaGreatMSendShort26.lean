/- Texts of the proof of the law FnSendShort, side by side: part 26. -/
import Derived.Lib.Builder
import Derived.Lib.Strings
import Derived.Lib.UnsafeStr
import Derived.Lib.AppendStr
import Derived.Laws.Externs
import Derived.OwnWalk
import Derived.Maps.AppendAt
import Derived.Deep.QuietTactic
import Derived.BigQuiet
import Derived.Deep.DeepMust
import Derived.Shelf.Strings.Builder1
import Derived.Deep.MidRow
import Derived.Test.YtbijfkpilncclaaGreatMSendShort00
import Derived.Test.YtbijfkpilncclaaGreatMSendShort01
import Derived.Test.YtbijfkpilncclaaGreatMSendShort02
import Derived.Test.YtbijfkpilncclaaGreatMSendShort03
import Derived.Test.YtbijfkpilncclaaGreatMSendShort04
import Derived.Test.YtbijfkpilncclaaGreatMSendShort05
import Derived.Test.YtbijfkpilncclaaGreatMSendShort06
import Derived.Test.YtbijfkpilncclaaGreatMSendShort07
import Derived.Test.YtbijfkpilncclaaGreatMSendShort08
import Derived.Test.YtbijfkpilncclaaGreatMSendShort09
import Derived.Test.YtbijfkpilncclaaGreatMSendShort10
import Derived.Test.YtbijfkpilncclaaGreatMSendShort11
import Derived.Test.YtbijfkpilncclaaGreatMSendShort12
import Derived.Test.YtbijfkpilncclaaGreatMSendShort13
import Derived.Test.YtbijfkpilncclaaGreatMSendShort14
import Derived.Test.YtbijfkpilncclaaGreatMSendShort15
import Derived.Test.YtbijfkpilncclaaGreatMSendShort16
import Derived.Test.YtbijfkpilncclaaGreatMSendShort17
import Derived.Test.YtbijfkpilncclaaGreatMSendShort18
import Derived.Test.YtbijfkpilncclaaGreatMSendShort19
import Derived.Test.YtbijfkpilncclaaGreatMSendShort20
import Derived.Test.YtbijfkpilncclaaGreatMSendShort21
import Derived.Test.YtbijfkpilncclaaGreatMSendShort22
import Derived.Test.YtbijfkpilncclaaGreatMSendShort23
import Derived.Test.YtbijfkpilncclaaGreatMSendShort24
import Derived.Test.YtbijfkpilncclaaGreatMSendShort25
namespace Go.Proofs.YtbijfkpilncclaaGreat
open Go.RowKit
theorem or_bit_i64 (m k : Nat) (hm : m < 2 ^ k) (hk : k < 8) : bits .or .i64 (m : Int) ((2 ^ k : Nat) : Int) = ((m + 2 ^ k : Nat) : Int) := by
  have h2 : 2 ^ k ≤ 2 ^ 7 := Nat.pow_le_pow_right (by decide) (by omega)
  have e7 : (2 : Nat) ^ 7 = 128 := rfl
  have hor : m ||| 2 ^ k = m + 2 ^ k := by
    have := Nat.two_pow_add_eq_or_of_lt hm 1
    rw [Nat.mul_one] at this
    rw [Nat.or_comm, ← this]
    omega
  show IntKind.i64.wrap ((BitVec.ofInt 64 (m : Int) ||| BitVec.ofInt 64 ((2 ^ k : Nat) : Int)).toNat : Int) = _
  rw [BitVec.toNat_or, BitVec.ofInt_natCast, BitVec.ofInt_natCast, BitVec.toNat_ofNat, BitVec.toNat_ofNat, Nat.mod_eq_of_lt (by omega), Nat.mod_eq_of_lt (by omega), hor]
  rw [IntKind.wrap_i64]
  omega
theorem shl64 (k : Nat) (hk : k < 8) : IntKind.i64.wrap ((2 : Int) ^ k) = ((2 ^ k : Nat) : Int) := by
  have h : k = 0 ∨ k = 1 ∨ k = 2 ∨ k = 3 ∨ k = 4 ∨ k = 5 ∨ k = 6 ∨ k = 7 := by omega
  rcases h with rfl | rfl | rfl | rfl | rfl | rfl | rfl | rfl <;> rfl
set_option maxRecDepth 100000 in
set_option maxHeartbeats 2000000 in
theorem l3Tag_any (s : ByteArray) (w : World) (hs : s.size = 8) :
    Calls Tryz.prog 61 #[.string s] w fun e w' => e = .returned (.int .i64 (maskN s.data.toList : Nat)) ∧ w = w' := by
  have hl : s.data.toList.length = 8 := by simp [hs]
  have HL := Lib.hid hl
  clear hl
  go_enter Tryz.func61, Tryz.ntmps61
  go_wp2
  go_loop [3, 4] (fun m i => ∃ k : Nat, k ≤ 8 ∧ i = .int .i64 k ∧ m = .int .i64 (maskN (s.data.toList.take k) : Nat)) (fun _ i => 8 - (intOf i).toNat)
  case atStart => exact ⟨0, by omega, rfl, rfl⟩
  case round =>
    obtain ⟨k, hk, rfl, rfl⟩ := hrel
    have hm1 := maskN_lt (s.data.toList.take k)
    have hml : (s.data.toList.take k).length = k := by rw [List.length_take, HL.out]; omega
    rw [hml] at hm1
    by_cases hk1 : k < 8
    · have hst := maskN_take s.data.toList k (by rw [HL.out]; exact hk1)
      have hlt : k < s.size := by omega
      rw [bytes_get s k hlt] at hst
      have hor := or_bit_i64 (maskN (s.data.toList.take k)) k hm1 hk1
      have hsh := shl64 k hk1
      have HST := Lib.hid hst
      generalize maskN (s.data.toList.take k) = M at hor HST ⊢
      clear hst hm1 hml
      by_cases hz : s[k] = 0
      · have hz1 : (((s[k]).toNat : Int) == 0) = true := by rw [hz]; rfl
        have hz2 : (((s[k]).toNat : Int) != 0) = false := by rw [hz]; rfl
        have HZ := Lib.hid hz
        clear hz hor hsh
        go_wp2
        go_round
        case rel => exact ⟨k + 1, by omega, by go_num, by rw [HST.out, if_pos HZ.out]; rfl⟩
        case measure => simp [intOf]; omega
      · have hz1 : (((s[k]).toNat : Int) == 0) = false := by
          rw [beq_eq_false_iff_ne]; intro h; exact hz (UInt8.toNat_inj.1 (show (s[k]).toNat = 0 by omega))
        have hz2 : (((s[k]).toNat : Int) != 0) = true := by simp [bne, hz1]
        have HZ := Lib.hid hz
        clear hz
        go_wp2
        go_round
        case rel => exact ⟨k + 1, by omega, by go_num, by rw [HST.out, if_neg HZ.out, ← hor]; simp [hsh]⟩
        case measure => simp [intOf]; omega
    · obtain rfl : k = 8 := by omega
      have hall : s.data.toList.take 8 = s.data.toList := List.take_of_length_le (by rw [HL.out]; exact Nat.le_refl _)
      rw [hall]
      clear hm1 hml hall
      go_wp2
      go_ret
      exact ⟨rfl, rfl⟩
theorem few_take (l : List UInt8) (k : Nat) (h : k < l.length) : ((l.take (k + 1)).filter (· == 0)).length = ((l.take k).filter (· == 0)).length + (if l[k]?.getD 0 = 0 then 1 else 0) := by
  rw [List.take_succ_eq_append_getElem h, List.filter_append, List.length_append, List.getElem?_eq_getElem h, Option.getD_some]
  by_cases hz : l[k] = 0 <;> simp [hz]
set_option maxRecDepth 100000 in
set_option maxHeartbeats 2000000 in
theorem l3Few_any (s : ByteArray) (w : World) (hs : s.size = 8) :
    Calls Tryz.prog 63 #[.string s] w fun e w' => e = .returned (.bool (!(fewL s.data.toList))) ∧ w = w' := by
  have hl : s.data.toList.length = 8 := by simp [hs]
  have HL := Lib.hid hl
  clear hl
  go_enter Tryz.func63, Tryz.ntmps63
  go_wp2
  go_loop [3, 4] (fun m i => ∃ k : Nat, k ≤ 8 ∧ i = .int .i64 k ∧ m = .int .i64 (((s.data.toList.take k).filter (· == 0)).length : Nat)) (fun _ i => 8 - (intOf i).toNat)
  case atStart => exact ⟨0, by omega, rfl, rfl⟩
  case round =>
    obtain ⟨k, hk, rfl, rfl⟩ := hrel
    by_cases hk1 : k < 8
    · have hst := few_take s.data.toList k (by rw [HL.out]; exact hk1)
      have hlt : k < s.size := by omega
      rw [bytes_get s k hlt] at hst
      have hle : ((s.data.toList.take k).filter (· == 0)).length ≤ 8 := Nat.le_trans (List.length_filter_le _ _) (by rw [List.length_take]; omega)
      have HST := Lib.hid hst
      generalize ((s.data.toList.take k).filter (· == 0)).length = M at hle HST ⊢
      clear hst
      by_cases hz : s[k] = 0
      · have hz1 : (((s[k]).toNat : Int) == 0) = true := by rw [hz]; rfl
        have HZ := Lib.hid hz
        clear hz
        go_wp2
        go_round
        case rel => exact ⟨k + 1, by omega, by go_num, by rw [HST.out, if_pos HZ.out]; go_num⟩
        case measure => simp [intOf]; omega
      · have hz1 : (((s[k]).toNat : Int) == 0) = false := by
          rw [beq_eq_false_iff_ne]; intro h; exact hz (UInt8.toNat_inj.1 (show (s[k]).toNat = 0 by omega))
        have HZ := Lib.hid hz
        clear hz
        go_wp2
        go_round
        case rel => exact ⟨k + 1, by omega, by go_num, by rw [HST.out, if_neg HZ.out]; rfl⟩
        case measure => simp [intOf]; omega
    · obtain rfl : k = 8 := by omega
      have hall : s.data.toList.take 8 = s.data.toList := List.take_of_length_le (by rw [HL.out]; exact Nat.le_refl _)
      rw [hall]
      clear hall
      go_wp2
      go_ret
      refine ⟨ret_bool ?_, rfl⟩
      rw [fewL]
      generalize (s.data.toList.filter (· == 0)).length = M
      by_cases h : M ≤ 1
      · rw [decide_eq_true h]; simp; omega
      · rw [decide_eq_false h]; simp; omega
end Go.Proofs.YtbijfkpilncclaaGreat

namespace Go.Proofs.YtbijfkpilncclaaGreat
open Go.RowKit
theorem fbsize : (Tryz.prog.info? 67).map (·.size) = some 2 := by kernel_rfl
theorem fbinfo5 : (Tryz.prog.info? 5).map (fun i => (i.zero, i.size, i.bytes)) = some (some (.int .u8 0), 1, 1) := by kernel_rfl
theorem fbcells5 : Tryz.prog.cellsOf 5 = 1 := by kernel_rfl
def LiesB (T : TypeId) (m : Nat) : Prop := T ≠ 5 ∧ liesAt Tryz.prog Tryz.prog.depth T ((m + 2) / Tryz.prog.cellsOf T) 0 67 1 = true
def fcs (p v : Value) (rest : List Value) : Array Value := (p :: v :: rest).toArray
theorem fcs_0 {w : World} {b : Nat} {p v : Value} {rest : List Value} {T : TypeId} (h : w.heap[b]? = some (.cells (fcs p v rest) T (0, 0))) : w.cell? ⟨b, 0, none⟩ = some p := by
  rw [cell_of_row _ _ _ _ _ _ h]; rfl
theorem fcs_1 {w : World} {b : Nat} {p v : Value} {rest : List Value} {T : TypeId} (h : w.heap[b]? = some (.cells (fcs p v rest) T (0, 0))) : w.cell? ⟨b, 1, none⟩ = some v := by
  rw [cell_of_row _ _ _ _ _ _ h]; rfl
theorem fcs_2 {w : World} {b i : Nat} {p v : Value} {rest : List Value} {T : TypeId} (h : w.heap[b]? = some (.cells (fcs p v rest) T (0, 0))) : w.cell? ⟨b, i + 2, none⟩ = rest[i]? := by
  rw [cell_of_row _ _ _ _ _ _ h]; simp [fcs]
theorem fset_0 {w : World} {b : Nat} {p v q : Value} {rest : List Value} {T : TypeId} (h : w.heap[b]? = some (.cells (fcs p v rest) T (0, 0))) : (w.setCell ⟨b, 0, none⟩ q).heap[b]? = some (.cells (fcs q v rest) T (0, 0)) := by
  simp [World.setCell, Array.getElem?_modify, h, fcs]
theorem fset_1 {w : World} {b : Nat} {p v q : Value} {rest : List Value} {T : TypeId} (h : w.heap[b]? = some (.cells (fcs p v rest) T (0, 0))) : (w.setCell ⟨b, 1, none⟩ q).heap[b]? = some (.cells (fcs p q rest) T (0, 0)) := by
  simp [World.setCell, Array.getElem?_modify, h, fcs]
theorem fset_2 {w : World} {b i : Nat} {p v q : Value} {rest : List Value} {T : TypeId} (h : w.heap[b]? = some (.cells (fcs p v rest) T (0, 0))) : (w.setCell ⟨b, i + 2, none⟩ q).heap[b]? = some (.cells (fcs p v (rest.set i q)) T (0, 0)) := by
  simp [World.setCell, Array.getElem?_modify, h, fcs]
theorem fset_grown (w : World) (b i : Nat) (u : Value) : w.grownBy (w.setCell ⟨b, i, none⟩ u) (some b) :=
  ⟨rfl, rfl, rfl, by simp [World.setCell], fun k _ hk => Below.heap_setCell w ⟨b, i, none⟩ u k (fun e => hk (by rw [e]))⟩
def BF (T : TypeId) (B b : Nat) (bs : List Value) (rest : List Value) (w : World) : Prop :=
  ∃ p v, (p = .pointer none ∨ p = .pointer (some ⟨b, 0, none⟩)) ∧ w.heap[b]? = some (.cells (fcs p v rest) T (0, 0)) ∧ w.ownsRow B 5 1 v bs.length bs
theorem BF.fresh {w : World} {T : TypeId} {b : Nat} {rest : List Value} (B : Nat) (h : w.heap[b]? = some (.cells (fcs (.pointer none) (.slice none 0 0) rest) T (0, 0))) : BF T B b [] rest w :=
  ⟨_, _, .inl rfl, h, World.ownsRow_nil _ _ _ _⟩
theorem BF.below {T : TypeId} {B b : Nat} {bs rest : List Value} {w w' : World} (h : BF T B b bs rest w) (hb : Below w.heap.size w w') : BF T B b bs rest w' := by
  obtain ⟨p, v, hp, hr, hown⟩ := h
  exact ⟨p, v, hp, (hb.block b (row_lt hr)).trans hr, hown.kept (row := none) ⟨hb.os, hb.tape, hb.output, hb.size, fun k hk _ => hb.block k hk⟩ (Classical.em _)⟩
theorem BF.lt {T : TypeId} {B b : Nat} {bs rest : List Value} {w : World} (h : BF T B b bs rest w) : b < w.heap.size := by
  obtain ⟨p, v, hp, hr, hown⟩ := h
  exact row_lt hr
theorem BF.cell {T : TypeId} {B b : Nat} {bs rest : List Value} {w : World} (h : BF T B b bs rest w) (i : Nat) : w.cell? ⟨b, i + 2, none⟩ = rest[i]? := by
  obtain ⟨p, v, hp, hr, hown⟩ := h
  exact fcs_2 hr
theorem BF.frozen {T : TypeId} {B b : Nat} {bs rest : List Value} {w : World} (h : BF T B b bs rest w) (i : Nat) : w.frozen? ⟨b, i, none⟩ = false := by
  obtain ⟨p, v, hp, hr, hown⟩ := h
  exact row_free hr i
theorem BF.set {T : TypeId} {B b : Nat} {bs rest : List Value} {w : World} (hT : T ≠ 5) (h : BF T B b bs rest w) (i : Nat) (q : Value) : BF T B b bs (rest.set i q) (w.setCell ⟨b, i + 2, none⟩ q) := by
  obtain ⟨p, v, hp, hr, hown⟩ := h
  exact ⟨p, v, hp, fset_2 hr, hown.kept (fset_grown w b (i + 2) q) (.inr (Lib.ownBlock_ne hown hr hT))⟩
set_option maxHeartbeats 1000000 in
theorem fcopyCheck_used (b : Nat) (w : World) (h0 : w.cell? ⟨b, 0, none⟩ = some (.pointer (some ⟨b, 0, none⟩))) :
    Calls Tryz.prog 82 #[.pointer (some ⟨b, 0, none⟩)] w fun e w' => e = .returned (.tuple #[]) ∧ w' = w := by
  obtain ⟨j, hj, _⟩ := Option.map_eq_some_iff.1 fbsize
  have hne := Lib.run_neq_ptr_same (P := Tryz.prog) w (tp := 65) (te := 67) ⟨b, 0, none⟩ Tryz.underlying65 hj
  go_enter Tryz.func82, Tryz.ntmps82
  go_wp2
  go_end0
  exact ⟨rfl, rfl⟩
set_option maxHeartbeats 1000000 in
theorem fcopyCheck_fresh (T : TypeId) (m b : Nat) (w : World) (hT : LiesB T m) (h0 : w.cell? ⟨b, 0, none⟩ = some (.pointer none)) (hsh : w.shape? b = some (T, m + 2)) (hfz : w.frozen? ⟨b, 0, none⟩ = false) :
    Calls Tryz.prog 82 #[.pointer (some ⟨b, 0, none⟩)] w fun e w' => e = .returned (.tuple #[]) ∧ w' = w.setCell ⟨b, 0, none⟩ (.pointer (some ⟨b, 0, none⟩)) := by
  obtain ⟨j, hj, hjs⟩ := Option.map_eq_some_iff.1 fbsize
  have hto := Lib.run_to_unsafe (P := Tryz.prog) w (src := 65) (dst := 157) (t := 67) ⟨b, 0, none⟩ Tryz.underlying65 Tryz.underlying157 hj (by rw [hjs]; decide) hsh (Nat.zero_lt_succ _)
  have hfrom := Lib.run_from_unsafe (P := Tryz.prog) w (src := 157) (dst := 65) (u := 67) ⟨b, 0, none⟩ Tryz.underlying157 Tryz.underlying65 hj hsh hT.2
  have hesc : (callFunc 117 #[.pointer (some ⟨b, 0, none⟩)]).run Tryz.prog w = .ok (.value (.pointer (some ⟨b, 0, none⟩))) w := by
    rw [run_callFunc_extern Tryz.func117 (by kernel_rfl) (by kernel_rfl) (by kernel_rfl) (e := Extern.AbiNoEscape.same) (by kernel_rfl), Lib.run_noEscape]
    rfl
  clear hT
  go_enter Tryz.func82, Tryz.ntmps82
  go_wp2
  go_end0
  exact ⟨rfl, rfl⟩
def Oth (b : Nat) (w w' : World) : Prop := ∀ c cs T fr, c ≠ b → T ≠ 5 → w.heap[c]? = some (.cells cs T fr) → w'.heap[c]? = some (.cells cs T fr)
def BSelf (T : TypeId) (B b : Nat) (v : Value) (bs rest : List Value) (w0 w : World) : Prop :=
  w.heap[b]? = some (.cells (fcs (.pointer (some ⟨b, 0, none⟩)) v rest) T (0, 0)) ∧ w.ownsRow B 5 1 v bs.length bs ∧ Keeps B b w0 w ∧ w.heap.size = w0.heap.size ∧ ∀ c, c ≠ b → w.heap[c]? = w0.heap[c]?
theorem fcopyCheck_any (T : TypeId) (B b : Nat) (bs rest : List Value) (w : World) (hT : LiesB T rest.length) (h : BF T B b bs rest w) :
    ∃ v, Calls Tryz.prog 82 #[.pointer (some ⟨b, 0, none⟩)] w fun e w' => e = .returned (.tuple #[]) ∧ BSelf T B b v bs rest w w' := by
  obtain ⟨p, v, hp, hb, hown⟩ := h
  have hne := Lib.ownBlock_ne hown hb hT.1
  have c0 := fcs_0 hb
  rcases hp with rfl | rfl
  · refine ⟨v, (fcopyCheck_fresh T rest.length b w hT c0 (by simp [World.shape?, hb, fcs]) (row_free hb 0)).mono ?_⟩
    rintro e w' ⟨rfl, rfl⟩
    exact ⟨rfl, fset_0 hb, hown.kept (fset_grown w b 0 _) (.inr hne), set_keeps B b w 0 _, by simp [World.setCell], fun c hc => Below.heap_setCell w ⟨b, 0, none⟩ _ c hc⟩
  · refine ⟨v, (fcopyCheck_used b w c0).mono ?_⟩
    rintro e w' ⟨rfl, rfl⟩
    exact ⟨rfl, hb, hown, Keeps.refl _ _ _, rfl, fun _ _ => rfl⟩
theorem BSelf.put {T : TypeId} {B b : Nat} {bs rest new : List Value} {v v' : Value} {w0 w1 w2 : World} (hT : T ≠ 5) (h : BSelf T B b v bs rest w0 w1) {wx : World} (hx : Keeps w1.heap.size w1.heap.size w1 wx) (hg : wx.grownBy w2 v.ownBlock) (hown : w2.ownsRow B 5 1 v' (bs ++ new).length (bs ++ new)) :
    w2.heap[b]? = some (.cells (fcs (.pointer (some ⟨b, 0, none⟩)) v rest) T (0, 0)) ∧ BF T B b (bs ++ new) rest (w2.setCell ⟨b, 1, none⟩ v') ∧ (B ≤ w1.heap.size → Keeps B b w0 (w2.setCell ⟨b, 1, none⟩ v')) ∧ Oth b w0 (w2.setCell ⟨b, 1, none⟩ v') := by
  obtain ⟨hb, ho, hk, _, hoth⟩ := h
  have hne := Lib.ownBlock_ne ho hb hT
  have hlt : b < w1.heap.size := row_lt hb
  have h2 : w2.heap[b]? = some (.cells (fcs (.pointer (some ⟨b, 0, none⟩)) v rest) T (0, 0)) :=
    (hg.block b (Nat.lt_of_lt_of_le hlt hx.size) (Ne.symm hne)).trans ((hx.block b hlt (by omega)).trans hb)
  have hne2 := Lib.ownBlock_ne hown h2 hT
  refine ⟨h2, ⟨_, _, .inr rfl, fset_1 h2, hown.kept (fset_grown w2 b 1 _) (.inr hne2)⟩, fun hB => hk.trans ?_, fun c cs T' fr hc hT' hh => ?_⟩
  rotate_left
  · have h1 : w1.heap[c]? = some (.cells cs T' fr) := (hoth c hc).trans hh
    have hl1 := row_lt h1
    have hne3 := Lib.ownBlock_ne ho h1 hT'
    rw [Below.heap_setCell w2 ⟨b, 1, none⟩ _ c hc]
    exact (hg.block c (Nat.lt_of_lt_of_le hl1 hx.size) (Ne.symm hne3)).trans ((hx.block c hl1 (by omega)).trans h1)
  refine Keeps.trans (c := w2) ⟨hg.os.trans hx.os, hg.tape.trans hx.tape, hg.output.trans hx.output, Nat.le_trans hx.size hg.size, fun k hk' hn => ?_⟩ (set_keeps B b w2 1 _)
  refine (hg.block k (Nat.lt_of_lt_of_le (Nat.lt_of_lt_of_le hk' hB) hx.size) (fun e => ?_)).trans (hx.block k (by omega) (by omega))
  have := (ho.lt k e.symm).1
  omega
theorem falloc_keeps (w : World) (x : Obj) : Keeps w.heap.size w.heap.size w (w.alloc x) := Keeps.of_below ((Below.refl _ w).alloc (Nat.le_refl _) x)
theorem fown_form {w : World} {B e n : Nat} {v : Value} {xs : List Value} (h : w.ownsRow B e 1 v (n + 1) xs) : ∃ g cap, v = .slice (some ⟨g, 0, none⟩) (n + 1) cap :=
  h.2.elim (fun h0 => absurd h0.2 (by omega)) (fun ⟨g, cap, _, hv, _⟩ => ⟨g, cap, hv⟩)
theorem fown_any {w : World} {B e n : Nat} {v : Value} {xs : List Value} (h : w.ownsRow B e 1 v n xs) : ∃ A cap, v = .slice A n cap := by
  rcases h.2 with ⟨rfl, rfl⟩ | ⟨g, cap, _, rfl, _⟩
  · exact ⟨none, 0, rfl⟩
  · exact ⟨_, cap, rfl⟩
set_option maxHeartbeats 1000000 in
theorem fwriteByteO_any (T : TypeId) (B b : Nat) (bs rest : List Value) (c : Int) (w : World) (hT : LiesB T rest.length) (h : BF T B b bs rest w) (hlen : bs.length ≤ 1099511627776) (hBw : B ≤ w.heap.size) :
    Calls Tryz.prog 102 #[.pointer (some ⟨b, 0, none⟩), .int .u8 c] w fun e w' => e = .returned .nilIface ∧ (BF T B b (bs ++ [.int .u8 c]) rest w' ∧ Keeps B b w w' ∧ Oth b w w') := by
  obtain ⟨i0, hi, hz0, hz1, hz2⟩ := info_parts fbinfo5
  obtain ⟨v, hcc⟩ := fcopyCheck_any T B b bs rest w hT h
  have HC := Lib.hid hcc
  have HT := Lib.hid hT.1
  clear hcc h hT
  go_enter Tryz.func102, Tryz.ntmps102
  go_wp2_with (first | (go_at_call 82; refine HC.out.mono ?_; rintro e w1 ⟨rfl, hS⟩; have hT := Lib.hid hS; have hsz := Nat.le_trans hBw (Nat.le_of_eq hS.2.2.2.1.symm); have c1 := fcs_1 hS.1; clear hS) | (at_builtin; refine wpList_append_own _ rfl _ _ 36 rfl B 5 i0 (.int .u8 0) 1 1 Tryz.underlying36 hi hz0 hz1 hz2 rfl (by decide) v _ _ rfl (hT.out.2.1.alloc _) ⟨w1.heap.size, 0, none⟩ 1 1 [.int .u8 c] rfl rfl (cell_one_new _ _ _) (by simp [Value.oneCell']) (by unfold maxLen; omega) (by omega) (by simp; omega) ?_; intro v' w2 hown' hgrow _; obtain ⟨h2, hU, hKp, hOt⟩ := hT.out.put HT.out (new := [.int .u8 c]) (falloc_keeps w1 _) hgrow (by rw [List.length_append]; exact hown'); have d1 := fcs_1 h2; have f1 := row_free h2 1; obtain ⟨g, cap, rfl⟩ := fown_form hown'; clear h2 hgrow))
  go_ret
  exact ⟨rfl, hU, hKp hsz, hOt⟩
theorem fwriteByte_any (T : TypeId) (B b : Nat) (bs rest : List Value) (c : Int) (w : World) (hT : LiesB T rest.length) (h : BF T B b bs rest w) (hlen : bs.length ≤ 1099511627776) (hBw : B ≤ w.heap.size) :
    Calls Tryz.prog 102 #[.pointer (some ⟨b, 0, none⟩), .int .u8 c] w fun e w' => e = .returned .nilIface ∧ (BF T B b (bs ++ [.int .u8 c]) rest w' ∧ Keeps B b w w') :=
  (fwriteByteO_any T B b bs rest c w hT h hlen hBw).mono fun _ _ ⟨h1, h2, h3, _⟩ => ⟨h1, h2, h3⟩
set_option maxHeartbeats 1000000 in
set_option maxRecDepth 100000 in
theorem fwriteString_any (T : TypeId) (B b : Nat) (bs rest : List Value) (s : ByteArray) (w : World) (hTT : LiesB T rest.length) (h : BF T B b bs rest w) (hlen : bs.length ≤ 1099511627776) (hs : s.size ≤ 1099511627776) (hBw : B ≤ w.heap.size) :
    Calls Tryz.prog 43 #[.pointer (some ⟨b, 0, none⟩), .string s] w fun e w' => e = .returned (.tuple #[.int .i64 s.size, .nilIface]) ∧ (BF T B b (bs ++ Lib.strCells s) rest w' ∧ Keeps B b w w') := by
  obtain ⟨i0, hi, hz0, hz1, hz2⟩ := info_parts fbinfo5
  obtain ⟨v, hcc⟩ := fcopyCheck_any T B b bs rest w hTT h
  have HC := Lib.hid hcc
  have HT := Lib.hid hTT.1
  clear hcc h hTT
  have hsl := Lib.strCells_length s
  have HSL := Lib.hid hsl
  clear hsl
  go_enter Tryz.func43, Tryz.ntmps43
  go_wp2_with (first | (go_at_call 82; refine HC.out.mono ?_; rintro e w1 ⟨rfl, hS⟩; have hT := Lib.hid hS; have hsz := Nat.le_trans hBw (Nat.le_of_eq hS.2.2.2.1.symm); have c1 := fcs_1 hS.1; clear hS) | (at_builtin; go_must (refine Lib.wpList_append_own_string _ rfl (.tmp 12) (.tmp 13) 36 9 rfl B 5 i0 Tryz.underlying36 Tryz.underlying9 hi hz0 hz1 hz2 v _ _ rfl hT.out.2.1 s rfl (by unfold maxLen; omega) (by omega) hsz ?_); intro v' w2 hown' hgrow _; obtain ⟨h2, hU, hKp, _⟩ := hT.out.put HT.out (new := Lib.strCells s) (Keeps.refl _ _ _) hgrow (by rw [List.length_append, HSL.out]; exact hown'); have d1 := fcs_1 h2; have f1 := row_free h2 1; obtain ⟨g, cap, rfl⟩ := fown_any hown'; clear h2 hgrow))
  go_ret2
  exact ⟨rfl, hU, hKp hsz⟩
theorem flen_any (T : TypeId) (B b : Nat) (bs rest : List Value) (w : World) (h : BF T B b bs rest w) :
    Calls Tryz.prog 45 #[.pointer (some ⟨b, 0, none⟩)] w fun e w' => e = .returned (.int .i64 bs.length) ∧ w = w' := by
  obtain ⟨p, v, hp, hb, hown⟩ := h
  obtain ⟨g, cap, rfl⟩ := fown_any hown
  have c1 := fcs_1 hb
  clear hb hown hp
  go_enter Tryz.func45, Tryz.ntmps45
  go_wp2
  go_ret
  exact ⟨rfl, rfl⟩
set_option maxHeartbeats 2000000 in
set_option maxRecDepth 100000 in
theorem fstring_any (T : TypeId) (B b : Nat) (l : List UInt8) (rest : List Value) (w : World) (h : BF T B b (Lib.byteCells l) rest w) (hBw : B ≤ w.heap.size) :
    Calls Tryz.prog 47 #[.pointer (some ⟨b, 0, none⟩)] w fun e w' => e = .returned (.string ⟨l.toArray⟩) ∧ Below B w w' := by
  obtain ⟨p, v, hp, hbk, hown⟩ := h
  have c1 : w.drew.cell? ⟨b, 1, none⟩ = some v := fcs_1 (w := w.drew) hbk
  have hlt := row_lt hbk
  rw [Lib.byteCells_length] at hown
  clear hp
  by_cases h0 : l = []
  · subst h0
    have hUS := fun (W : World) (q : Option Addr) => Lib.run_unsafeString_none (P := Tryz.prog) W 119 3 9 q
    rcases hown.2 with ⟨rfl, _⟩ | ⟨g, cap, cur, rfl, hbg, hg, hnc, hcm, hcs, htake⟩
    · have hSD : (Builtin.unsafeSliceData_ #[36] 119 #[.slice none 0 0]).run Tryz.prog w.drew = .ok (.pointer none) w.drew := rfl
      clear hbk hown
      go_enter Tryz.func47, Tryz.ntmps47
      go_wp2
      go_region
      all_goals (go_wp2; go_ret; exact ⟨rfl, Below.drew (Below.refl B w)⟩)
    · by_cases hc0 : cap = 0
      · subst hc0
        have hSD : (Builtin.unsafeSliceData_ #[36] 119 #[.slice (some ⟨g, 0, none⟩) 0 0]).run Tryz.prog w.drew = .ok (.pointer (some ⟨w.drew.heap.size, 0, none⟩)) (w.drew.alloc (.view ⟨g, 0, none⟩ 5)) :=
          Lib.run_unsafeSliceData_zero w.drew _ _ 5 Tryz.underlying119 ⟨g, 0, none⟩ 0 (5, cur.size) (by have hg' : w.drew.heap[g]? = some (.cells cur 5 (0, 0)) := hg; simp [World.shape?, hg'])
        have c2 : (w.drew.alloc (.view ⟨g, 0, none⟩ 5)).cell? ⟨b, 1, none⟩ = some (.slice (some ⟨g, 0, none⟩) 0 0) := fcs_1 (w := w.drew.alloc (.view ⟨g, 0, none⟩ 5)) ((Lib.alloc_old w.drew _ b hlt).trans hbk)
        have c3 : (w.alloc (.view ⟨g, 0, none⟩ 5)).drew.cell? ⟨b, 1, none⟩ = some (.slice (some ⟨g, 0, none⟩) 0 0) := c2
        have c0 : w.cell? ⟨b, 1, none⟩ = some (.slice (some ⟨g, 0, none⟩) 0 0) := c1
        clear hbk hown
        go_enter Tryz.func47, Tryz.ntmps47
        go_wp2
        go_region
        all_goals (go_wp2; go_ret; exact ⟨rfl, (Below.drew (Below.refl B w)).alloc hBw _⟩)
      · have hSD : (Builtin.unsafeSliceData_ #[36] 119 #[.slice (some ⟨g, 0, none⟩) 0 cap]).run Tryz.prog w.drew = .ok (.pointer (some ⟨g, 0, none⟩)) w.drew :=
          Lib.run_unsafeSliceData_row _ _ _ _ _ _ hc0
        clear hc0 hbk hown hnc hcm hcs
        go_enter Tryz.func47, Tryz.ntmps47
        go_wp2
        go_region
        all_goals (go_wp2; go_ret; exact ⟨rfl, Below.drew (Below.refl B w)⟩)
  · have hl0 : l.length ≠ 0 := by simpa using h0
    obtain ⟨g, cap, cur, rfl, hbg, hg, hnc, hcm, hcs, htake⟩ : ∃ g cap cur, v = .slice (some ⟨g, 0, none⟩) l.length cap ∧ B ≤ g ∧ w.heap[g]? = some (.cells cur 5 (0, 0)) ∧ l.length ≤ cap ∧ cap ≤ maxLen ∧ cur.size = cap * 1 ∧ cur.toList.take (l.length * 1) = Lib.byteCells l := by
      rcases hown.2 with ⟨_, hz⟩ | ⟨g, cap, cur, hv, r⟩
      · exact absurd hz hl0
      · exact ⟨g, cap, cur, hv, r⟩
    have hSD : (Builtin.unsafeSliceData_ #[36] 119 #[.slice (some ⟨g, 0, none⟩) l.length cap]).run Tryz.prog w.drew = .ok (.pointer (some ⟨g, 0, none⟩)) w.drew :=
      Lib.run_unsafeSliceData_row _ _ _ _ _ _ (by omega)
    have hUS : (Builtin.unsafeString_ #[119, 3] 9 #[.pointer (some ⟨g, 0, none⟩), .int .i64 l.length]).run Tryz.prog w.drew = .ok (.string ⟨l.toArray⟩) (w.drew.freeze ⟨g, 0, none⟩ l.length) := by
      refine Lib.run_unsafeString_row w.drew 119 3 9 5 Tryz.underlying119 fbcells5 g cur.size (by have hg' : w.drew.heap[g]? = some (.cells cur 5 (0, 0)) := hg; simp [World.shape?, hg']) l h0 (by omega) (by unfold maxLen at hcm; omega) ?_
      intro j x hx
      have := hown.cells (g := g) rfl j (.int .u8 x.toNat) (by simp [Lib.byteCells, hx])
      exact this
    go_enter Tryz.func47, Tryz.ntmps47
    go_wp2
    go_region
    all_goals (go_wp2; go_ret; exact ⟨rfl, Lib.below_freeze (Below.drew (Below.refl B w)) (p := ⟨g, 0, none⟩) hbg _⟩)
end Go.Proofs.YtbijfkpilncclaaGreat

namespace Go.Proofs.YtbijfkpilncclaaGreat
open Go.RowKit
theorem wpList_load_midG {P : Program} {ops : Array Oper} {rest : List Oper} {op : Oper} {a : Act} {w : World} {Q : Exit → Act → World → Prop} (hgd : Region.wanted op (yielded ops a.tmps) = true) (ty : TypeId) (x : Operand) (ho : op.op = .load ty x)
    (b o : Nat) (hx : a.eval x = .pointer (some ⟨b, o, none⟩)) (cs : List Value) (d : TypeDesc) (hc : w.rangeAt b o cs)
    (hu : P.underlying ty = some d) (hd : d.isRow = true) (hi : (P.info? ty).map (·.size) = some cs.length)
    (h : wpList P ops Q rest (a.put op.dst (.agg cs.toArray)) w) : wpList P ops Q (op :: rest) a w := by
  show if _ then _ ∨ _ else _
  rw [if_pos hgd]
  exact .inl (wp_load_mid ty x ho b o hx cs d hc hu hd hi h)
def WS (B b : Nat) (w : World) (v : Value) (ws : List (List UInt8)) : Prop :=
  ∃ A cap, v = .slice A ws.length cap ∧ ws.length ≤ cap ∧ cap ≤ 9223372036854775807 ∧ Wds ws ∧ (ws = [] ∨ ∃ g o, A = some ⟨g, o, none⟩ ∧ g < B ∧ g ≠ b ∧ w.rangeAt g o (Lib.byteCells ws.flatten))
theorem WS.keeps {B b : Nat} {w w' : World} {v : Value} {ws : List (List UInt8)} (h : WS B b w v ws) (hk : Keeps B b w w') : WS B b w' v ws := by
  obtain ⟨A, cap, hv, h1, h2, h3, h4⟩ := h
  refine ⟨A, cap, hv, h1, h2, h3, h4.imp id ?_⟩
  rintro ⟨g, o, ha, hg, hne, hr⟩
  exact ⟨g, o, ha, hg, hne, fun j u hu => (keeps_cell hk ⟨g, o + j, none⟩ hg hne).trans (hr j u hu)⟩
theorem flat_at : ∀ (ws : List (List UInt8)) (k j : Nat) (_ : Wds ws) (h : k < ws.length), j < 8 → ws.flatten[8 * k + j]? = (ws[k])[j]?
  | w :: r, 0, j, hw, _, hj => by
    have h8 := hw w (by simp)
    rw [List.flatten_cons, List.getElem?_append_left (by omega)]
    simp
  | w :: r, k + 1, j, hw, h, hj => by
    have h8 := hw w (by simp)
    have ih := flat_at r k j (fun x hx => hw x (by simp [hx])) (by simpa using h) hj
    rw [List.flatten_cons, List.getElem?_append_right (by omega), h8, show 8 * (k + 1) + j - 8 = 8 * k + j by omega, ih]
    simp
theorem flat_drop : ∀ (ws : List (List UInt8)) (k : Nat), Wds ws → k ≤ ws.length → ws.flatten.drop (8 * k) = (ws.drop k).flatten
  | ws, 0, _, _ => rfl
  | [], k + 1, _, h => by simp at h
  | w :: r, k + 1, hw, h => by
    have h8 := hw w (by simp)
    rw [List.flatten_cons, List.drop_append, List.drop_of_length_le (by omega), List.nil_append, show 8 * (k + 1) - w.length = 8 * k by omega, List.drop_succ_cons]
    exact flat_drop r k (fun x hx => hw x (by simp [hx])) (by simpa using h)
theorem range_word {w : World} {g o : Nat} {ws : List (List UInt8)} (hw : Wds ws) (h : w.rangeAt g o (Lib.byteCells ws.flatten)) (k : Nat) (hk : k < ws.length) : w.rangeAt g (o + 8 * k) (Lib.byteCells ws[k]) := fun j u hu => by
  have h8 : (ws[k]).length = 8 := hw _ (List.getElem_mem hk)
  have hj : j < 8 := by have := (List.getElem?_eq_some_iff.1 hu).1; rw [Lib.byteCells_length] at this; omega
  have := h (8 * k + j) u (by rw [Lib.byteCells, List.getElem?_map, flat_at ws k j hw hk hj, ← List.getElem?_map]; exact hu)
  rw [← Nat.add_assoc] at this
  exact this
theorem range_drop {w : World} {g o : Nat} {ws : List (List UInt8)} (hw : Wds ws) (h : w.rangeAt g o (Lib.byteCells ws.flatten)) (k : Nat) (hk : k ≤ ws.length) : w.rangeAt g (o + 8 * k) (Lib.byteCells (ws.drop k).flatten) := fun j u hu => by
  rw [← flat_drop ws k hw hk] at hu
  have := h (8 * k + j) u (by rw [Lib.byteCells, List.getElem?_map] at hu ⊢; rwa [List.getElem?_drop] at hu)
  rw [← Nat.add_assoc] at this
  exact this
theorem range_take {w : World} {g o : Nat} {ws : List (List UInt8)} (h : w.rangeAt g o (Lib.byteCells ws.flatten)) (k : Nat) : w.rangeAt g o (Lib.byteCells (ws.take k).flatten) := fun j u hu => by
  refine h j u ?_
  have e : ws.flatten = (ws.take k).flatten ++ (ws.drop k).flatten := by rw [← List.flatten_append, List.take_append_drop]
  rw [e, Lib.byteCells, List.map_append, List.getElem?_append_left (by have := (List.getElem?_eq_some_iff.1 hu).1; simpa [Lib.byteCells] using this)]
  exact hu
def PS (B b : Nat) (out : List UInt8) (v : Value) (ws : List (List UInt8)) (w : World) : Prop := BF 96 B b (Lib.byteCells out) [v] w ∧ WS B b w v ws
theorem pkT : LiesB 96 1 := ⟨by decide, by kernel_rfl⟩
theorem PS.left {B b : Nat} {out : List UInt8} {v : Value} {ws : List (List UInt8)} {w : World} (h : PS B b out v ws w) : w.cell? ⟨b, 2, none⟩ = some v := by
  have := BF.cell h.1 0; simpa using this
theorem PS.below {B b : Nat} {out : List UInt8} {v : Value} {ws : List (List UInt8)} {w w' : World} (h : PS B b out v ws w) (hb : Below w.heap.size w w') (hB : B ≤ w.heap.size) : PS B b out v ws w' :=
  ⟨h.1.below hb, h.2.keeps (Keeps.of_below (hb.mono hB))⟩
theorem PS.setLeft {B b : Nat} {out : List UInt8} {v : Value} {ws : List (List UInt8)} {w : World} (h : PS B b out v ws w) (v' : Value) : BF 96 B b (Lib.byteCells out) [v'] (w.setCell ⟨b, 2, none⟩ v') := by
  have := BF.set pkT.1 h.1 0 v'; simpa using this
theorem WS.taken {B b k cap : Nat} {w : World} {A : Option Addr} {ws : List (List UInt8)} (h : WS B b w (.slice A ws.length cap) ws) (hk : k ≤ ws.length) : WS B b w (.slice A k cap) (ws.take k) := by
  obtain ⟨A', cap', hv, h1, h2, h3, h4⟩ := h
  cases hv
  have hl : (ws.take k).length = k := by rw [List.length_take]; omega
  refine ⟨A, cap, by rw [hl], by omega, h2, h3.take k, ?_⟩
  rcases h4 with rfl | ⟨g, o, ha, hg, hne, hr⟩
  · left; simp
  · exact .inr ⟨g, o, ha, hg, hne, range_take hr k⟩
theorem WS.dropped {B b k cap g o : Nat} {w : World} {ws : List (List UInt8)} (h : WS B b w (.slice (some ⟨g, o, none⟩) ws.length cap) ws) (hk : k < ws.length) : WS B b w (.slice (some ⟨g, o + k * 8, none⟩) (ws.length - k) (cap - k)) (ws.drop k) := by
  obtain ⟨A', cap', hv, h1, h2, h3, h4⟩ := h
  cases hv
  refine ⟨some ⟨g, o + k * 8, none⟩, cap - k, by rw [List.length_drop], by rw [List.length_drop]; omega, by omega, h3.drop k, ?_⟩
  rcases h4 with rfl | ⟨g', o', ha, hg, hne, hr⟩
  · simp at hk
  · cases ha
    exact .inr ⟨g, o + k * 8, rfl, hg, hne, by rw [Nat.mul_comm k 8]; exact range_drop h3 hr k (by omega)⟩
theorem WS.empty (B b : Nat) (w : World) (A : Option Addr) (cap : Nat) (h : cap ≤ 9223372036854775807) : WS B b w (.slice A 0 cap) [] := ⟨A, cap, rfl, Nat.zero_le _, h, (fun w hw => by cases hw), .inl rfl⟩
theorem pcount_any (B b : Nat) (out : List UInt8) (k cap : Nat) (A : Option Addr) (v2 : Value) (ws : List (List UInt8)) (w : World) (h : PS B b out (.slice A ws.length cap) ws w) (hk : k ≤ ws.length) (hk2 : k ≤ 255) (h2 : WS B b w v2 (ws.drop k)) (ho : out.length ≤ 1000000) (hBw : B ≤ w.heap.size) :
    Calls Tryz.prog 102 #[.pointer (some ⟨b, 0, none⟩), .int .u8 (k : Int)] (w.setCell ⟨b, 2, none⟩ v2) fun e w' => e = .returned .nilIface ∧ WS B b w' (.slice A k cap) (ws.take k) ∧ PS B b (out ++ [UInt8.ofNat k]) v2 (ws.drop k) w' ∧ Keeps B b w w' := by
  have hs := h.setLeft v2
  have hK := set_keeps B b w 2 v2
  refine (fwriteByte_any 96 B b (Lib.byteCells out) [v2] (k : Int) _ pkT hs (by rw [Lib.byteCells_length]; omega) (Nat.le_trans hBw hK.size)).mono ?_
  rintro e w' ⟨he, hb, hk'⟩
  have hKK := hK.trans hk'
  have e : Lib.byteCells out ++ [Value.int .u8 (k : Int)] = Lib.byteCells (out ++ [UInt8.ofNat k]) := by
    have : (UInt8.ofNat k).toNat = k := by rw [UInt8.toNat_ofNat']; omega
    simp [Lib.byteCells]; omega
  rw [e] at hb
  exact ⟨he, (h.2.taken hk).keeps hKK, ⟨hb, h2.keeps hKK⟩, hKK⟩
set_option maxRecDepth 100000 in
set_option maxHeartbeats 4000000 in
theorem ptakeZ_any (B b : Nat) (out : List UInt8) (v : Value) (ws : List (List UInt8)) (w : World) (h : PS B b out v ws w) (hl : ws.length ≤ 200) (ho : out.length ≤ 1000000) (hBw : B ≤ w.heap.size) :
    Calls Tryz.prog 127 #[.pointer (some ⟨b, 0, none⟩), .func (.func 128) #[] #[]] w fun e w' =>
      ∃ v1 v2, e = .returned v1 ∧ WS B b w' v1 (ws.take (runN zerL ws)) ∧ PS B b (out ++ [UInt8.ofNat (runN zerL ws)]) v2 (ws.drop (runN zerL ws)) w' ∧ Keeps B b w w' := by
  obtain ⟨A, cap, rfl, hcap, hcm, hwds, hrg⟩ := h.2
  have HWds := Lib.hid hwds
  have HRG := Lib.hid hrg
  have H := Lib.hid h
  obtain ⟨P, hP⟩ : ∃ P : Ending → World → Prop, P = (fun e w' => ∃ v1 v2, e = .returned v1 ∧ WS B b w' v1 (ws.take (runN zerL ws)) ∧ PS B b (out ++ [UInt8.ofNat (runN zerL ws)]) v2 (ws.drop (runN zerL ws)) w' ∧ Keeps B b w w') := ⟨_, rfl⟩
  rw [← hP]
  have HP := Lib.hid hP
  clear hP h hwds hrg
  go_enter Tryz.func127, Tryz.ntmps127
  go_wp2_with fail
  go_loopw [5] (fun i wr => ∃ k : Nat, k ≤ ws.length ∧ k ≤ 255 ∧ i = .int .i64 k ∧ Hid (∀ j (h : j < ws.length), j < k → zerL ws[j] = true) ∧ Hid (Below w.heap.size w wr)) (fun i _ => ws.length - (intOf i).toNat)
  case atStart => exact ⟨0, by omega, by omega, rfl, fun j hj h => by omega, Below.refl _ _⟩
  case round =>
    obtain ⟨k, hk, hk255, rfl, HZ, HB⟩ := hrel
    have hPS := H.out.below HB.out hBw
    have hcl := hPS.left
    have hPS0 := Lib.hid hPS
    have HBB := Lib.hid (Nat.le_trans hBw HB.out.size)
    by_cases hgo : k < ws.length ∧ k < 255
    · obtain ⟨hk1, hk2⟩ := hgo
      obtain ⟨g, o, rfl, hgB, hgb, hr⟩ := HRG.out.resolve_left (by intro h; rw [h] at hk1; simp at hk1)
      have hr2 : wr.rangeAt g (o + 8 * k) (Lib.byteCells ws[k]) := fun j u hu => (HB.out.cell (p := ⟨g, o + 8 * k + j, none⟩) (show g < w.heap.size by omega)).trans (range_word HWds.out hr k hk1 j u hu)
      have hx8 : (ws[k]).length = 8 := HWds.out _ (List.getElem_mem hk1)
      obtain ⟨x, hx⟩ : ∃ x, ws[k] = x := ⟨_, rfl⟩
      rw [hx] at hr2 hx8
      have HX := Lib.hid hx
      rw [Nat.mul_comm 8 k] at hr2
      have HR2 := Lib.hid hr2
      have HX8 := Lib.hid hx8
      have hd1 : decide ((k : Int) < (ws.length : Int)) = true := by simp; omega
      have hd2 : decide ((k : Int) < 255) = true := by simp; omega
      have hN := Lib.hid (noughts1_any x wr hx8)
      clear hx hr2 hPS hx8
      go_wp2_with (refine wpList_load_midG (by rfl) 91 (.tmp 25) rfl g (o + k * 8) rfl (Lib.byteCells x) _ HR2.out Tryz.underlying91 rfl (by rw [Lib.byteCells_length, HX8.out]; exact size46) ?_)
      refine hN.out.mono ?_
      rintro e w1 ⟨rfl, hb1⟩
      have HB1 := Lib.hid (HB.out.trans (hb1.mono HB.out.size))
      cases hz : zerL x
      · have hrun : runN zerL ws = k := runN_eq hk hk255 HZ.out (.inr (.inr ⟨hk1, by rw [HX.out]; exact hz⟩))
        have HRun := Lib.hid hrun
        have hPS1 := hPS0.out.below hb1 HBB.out
        have hcl1 := hPS1.left
        have hfz1 := BF.frozen hPS1.1 2
        have HPS1 := Lib.hid hPS1
        have hB1 := hb1
        clear hrun hz hb1 hPS1
        have hpc := Lib.hid (pcount_any B b out k cap _ _ ws w1 HPS1.out hk hk255 (HPS1.out.2.dropped hk1) ho (Nat.le_trans HBB.out hB1.size))
        go_wp2_with fail
        refine hpc.out.mono ?_
        rintro e w2 ⟨rfl, hw1, hp1, hkp⟩
        have HW1 := Lib.hid hw1
        have HP1 := Lib.hid hp1
        have HK1 := Lib.hid ((Keeps.of_below (HB1.out.mono hBw)).trans hkp)
        clear hw1 hp1 hkp hB1
        go_wp2
        rw [HP.out, HRun.out]
        exact ⟨_, _, rfl, HW1.out, HP1.out, HK1.out⟩
      · have HZ2 : Hid (∀ j (h : j < ws.length), j < k + 1 → zerL ws[j] = true) := Lib.hid (fun j hj hjk => by
          by_cases hjk2 : j < k
          · exact HZ.out j hj hjk2
          · obtain rfl : j = k := by omega
            rw [HX.out]; exact hz)
        clear hz hb1
        go_wp2
        go_roundw
        case rel => exact ⟨k + 1, by omega, by omega, by go_num, HZ2, HB1⟩
        case measure => simp [intOf]; omega
    · obtain rfl : k = ws.length := by omega
      have hrun : runN zerL ws = ws.length := runN_eq (Nat.le_refl _) hk255 HZ.out (.inr (.inl rfl))
      have HRun := Lib.hid hrun
      have hfz1 := BF.frozen hPS.1 2
      have hdrop : ws.drop ws.length = [] := List.drop_length
      have HDrop := Lib.hid hdrop
      clear hrun hPS hdrop
      by_cases hcc : cap = ws.length
      · subst hcc
        have hpc := Lib.hid (pcount_any B b out ws.length ws.length A (.slice A 0 0) ws wr hPS0.out (Nat.le_refl _) hk255 (by rw [HDrop.out]; exact WS.empty B b wr _ _ (by omega)) ho HBB.out)
        go_wp2_with fail
        refine hpc.out.mono ?_
        rintro e w2 ⟨rfl, hw1, hp1, hkp⟩
        have HW1 := Lib.hid hw1
        have HP1 := Lib.hid hp1
        have HK1 := Lib.hid ((Keeps.of_below (HB.out.mono hBw)).trans hkp)
        clear hw1 hp1 hkp
        go_wp2
        rw [HP.out, HRun.out]
        exact ⟨_, _, rfl, HW1.out, HP1.out, HK1.out⟩
      · have hcc2 : ws.length < cap := by omega
        have hpc := Lib.hid (pcount_any B b out ws.length cap A (.slice (Option.map (fun x => x.add (ws.length * 8)) A) 0 (cap - ws.length)) ws wr hPS0.out (Nat.le_refl _) hk255 (by rw [HDrop.out]; exact WS.empty B b wr _ _ (by omega)) ho HBB.out)
        go_wp2_with fail
        refine hpc.out.mono ?_
        rintro e w2 ⟨rfl, hw1, hp1, hkp⟩
        have HW1 := Lib.hid hw1
        have HP1 := Lib.hid hp1
        have HK1 := Lib.hid ((Keeps.of_below (HB.out.mono hBw)).trans hkp)
        clear hw1 hp1 hkp
        go_wp2
        rw [HP.out, HRun.out]
        exact ⟨_, _, rfl, HW1.out, HP1.out, HK1.out⟩
end Go.Proofs.YtbijfkpilncclaaGreat
