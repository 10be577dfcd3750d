/- strings.Builder's methods at a builder that is the first field of a struct that the call itself has made. -/
import Derived.Test.YtgeldgikjcihgaaIn
import Derived.Test.YtgeldgikjcihgaaKeeps
import Derived.Lib.Builder
import Derived.Lib.Strings
import Derived.Lib.UnsafeStr
import Derived.Lib.AppendStr
import Derived.Laws.Externs
import Derived.OwnWalk
import Derived.Maps.AppendAt
import Derived.Deep.QuietTactic
import Derived.BigQuiet
import Derived.Deep.DeepMust
import Derived.Shelf.Strings.Builder1
namespace Go.Proofs.Ytgeldgikjcihgaa
open Go.RowKit
theorem fbsize : (Try.prog.info? 56).map (·.size) = some 2 := by kernel_rfl
theorem fbinfo5 : (Try.prog.info? 5).map (fun i => (i.zero, i.size, i.bytes)) = some (some (.int .u8 0), 1, 1) := by kernel_rfl
theorem fbcells5 : Try.prog.cellsOf 5 = 1 := by kernel_rfl
/-- a struct type whose first field is a builder, with m cells behind it. -/
def LiesB (T : TypeId) (m : Nat) : Prop := T ≠ 5 ∧ liesAt Try.prog Try.prog.depth T ((m + 2) / Try.prog.cellsOf T) 0 56 1 = true
/-- the cells of the struct: the builder's two, and those behind. -/
def fcs (p v : Value) (rest : List Value) : Array Value := (p :: v :: rest).toArray
theorem fcs_0 {w : World} {b : Nat} {p v : Value} {rest : List Value} {T : TypeId} (h : w.heap[b]? = some (.cells (fcs p v rest) T (0, 0))) : w.cell? ⟨b, 0, none⟩ = some p := by
  rw [cell_of_row _ _ _ _ _ _ h]; rfl
theorem fcs_1 {w : World} {b : Nat} {p v : Value} {rest : List Value} {T : TypeId} (h : w.heap[b]? = some (.cells (fcs p v rest) T (0, 0))) : w.cell? ⟨b, 1, none⟩ = some v := by
  rw [cell_of_row _ _ _ _ _ _ h]; rfl
theorem fcs_2 {w : World} {b i : Nat} {p v : Value} {rest : List Value} {T : TypeId} (h : w.heap[b]? = some (.cells (fcs p v rest) T (0, 0))) : w.cell? ⟨b, i + 2, none⟩ = rest[i]? := by
  rw [cell_of_row _ _ _ _ _ _ h]; simp [fcs]
theorem fset_0 {w : World} {b : Nat} {p v q : Value} {rest : List Value} {T : TypeId} (h : w.heap[b]? = some (.cells (fcs p v rest) T (0, 0))) : (w.setCell ⟨b, 0, none⟩ q).heap[b]? = some (.cells (fcs q v rest) T (0, 0)) := by
  simp [World.setCell, Array.getElem?_modify, h, fcs]
theorem fset_1 {w : World} {b : Nat} {p v q : Value} {rest : List Value} {T : TypeId} (h : w.heap[b]? = some (.cells (fcs p v rest) T (0, 0))) : (w.setCell ⟨b, 1, none⟩ q).heap[b]? = some (.cells (fcs p q rest) T (0, 0)) := by
  simp [World.setCell, Array.getElem?_modify, h, fcs]
theorem fset_2 {w : World} {b i : Nat} {p v q : Value} {rest : List Value} {T : TypeId} (h : w.heap[b]? = some (.cells (fcs p v rest) T (0, 0))) : (w.setCell ⟨b, i + 2, none⟩ q).heap[b]? = some (.cells (fcs p v (rest.set i q)) T (0, 0)) := by
  simp [World.setCell, Array.getElem?_modify, h, fcs]
theorem fset_grown (w : World) (b i : Nat) (u : Value) : w.grownBy (w.setCell ⟨b, i, none⟩ u) (some b) :=
  ⟨rfl, rfl, rfl, by simp [World.setCell], fun k _ hk => Below.heap_setCell w ⟨b, i, none⟩ u k (fun e => hk (by rw [e]))⟩
/-- a builder in block b holds these bytes, its buffer lying from block B on; behind it lie those cells. -/
def BF (T : TypeId) (B b : Nat) (bs : List Value) (rest : List Value) (w : World) : Prop :=
  ∃ p v, (p = .pointer none ∨ p = .pointer (some ⟨b, 0, none⟩)) ∧ w.heap[b]? = some (.cells (fcs p v rest) T (0, 0)) ∧ w.ownsRow B 5 1 v bs.length bs
theorem BF.fresh {w : World} {T : TypeId} {b : Nat} {rest : List Value} (B : Nat) (h : w.heap[b]? = some (.cells (fcs (.pointer none) (.slice none 0 0) rest) T (0, 0))) : BF T B b [] rest w :=
  ⟨_, _, .inl rfl, h, World.ownsRow_nil _ _ _ _⟩
theorem BF.below {T : TypeId} {B b : Nat} {bs rest : List Value} {w w' : World} (h : BF T B b bs rest w) (hb : Below w.heap.size w w') : BF T B b bs rest w' := by
  obtain ⟨p, v, hp, hr, hown⟩ := h
  exact ⟨p, v, hp, (hb.block b (row_lt hr)).trans hr, hown.kept (row := none) ⟨hb.os, hb.tape, hb.output, hb.size, fun k hk _ => hb.block k hk⟩ (Classical.em _)⟩
theorem BF.lt {T : TypeId} {B b : Nat} {bs rest : List Value} {w : World} (h : BF T B b bs rest w) : b < w.heap.size := by
  obtain ⟨p, v, hp, hr, hown⟩ := h
  exact row_lt hr
theorem BF.cell {T : TypeId} {B b : Nat} {bs rest : List Value} {w : World} (h : BF T B b bs rest w) (i : Nat) : w.cell? ⟨b, i + 2, none⟩ = rest[i]? := by
  obtain ⟨p, v, hp, hr, hown⟩ := h
  exact fcs_2 hr
theorem BF.frozen {T : TypeId} {B b : Nat} {bs rest : List Value} {w : World} (h : BF T B b bs rest w) (i : Nat) : w.frozen? ⟨b, i, none⟩ = false := by
  obtain ⟨p, v, hp, hr, hown⟩ := h
  exact row_free hr i
theorem BF.set {T : TypeId} {B b : Nat} {bs rest : List Value} {w : World} (hT : T ≠ 5) (h : BF T B b bs rest w) (i : Nat) (q : Value) : BF T B b bs (rest.set i q) (w.setCell ⟨b, i + 2, none⟩ q) := by
  obtain ⟨p, v, hp, hr, hown⟩ := h
  exact ⟨p, v, hp, fset_2 hr, hown.kept (fset_grown w b (i + 2) q) (.inr (Lib.ownBlock_ne hown hr hT))⟩
set_option maxHeartbeats 1000000 in
theorem fcopyCheck_used (b : Nat) (w : World) (h0 : w.cell? ⟨b, 0, none⟩ = some (.pointer (some ⟨b, 0, none⟩))) :
    Calls Try.prog 89 #[.pointer (some ⟨b, 0, none⟩)] w fun e w' => e = .returned (.tuple #[]) ∧ w' = w := by
  obtain ⟨j, hj, _⟩ := Option.map_eq_some_iff.1 fbsize
  have hne := Lib.run_neq_ptr_same (P := Try.prog) w (tp := 54) (te := 56) ⟨b, 0, none⟩ Try.underlying54 hj
  go_enter Try.func89, Try.ntmps89
  go_wp2
  go_end0
  exact ⟨rfl, rfl⟩
set_option maxHeartbeats 1000000 in
theorem fcopyCheck_fresh (T : TypeId) (m b : Nat) (w : World) (hT : LiesB T m) (h0 : w.cell? ⟨b, 0, none⟩ = some (.pointer none)) (hsh : w.shape? b = some (T, m + 2)) (hfz : w.frozen? ⟨b, 0, none⟩ = false) :
    Calls Try.prog 89 #[.pointer (some ⟨b, 0, none⟩)] w fun e w' => e = .returned (.tuple #[]) ∧ w' = w.setCell ⟨b, 0, none⟩ (.pointer (some ⟨b, 0, none⟩)) := by
  obtain ⟨j, hj, hjs⟩ := Option.map_eq_some_iff.1 fbsize
  have hto := Lib.run_to_unsafe (P := Try.prog) w (src := 54) (dst := 132) (t := 56) ⟨b, 0, none⟩ Try.underlying54 Try.underlying132 hj (by rw [hjs]; decide) hsh (Nat.zero_lt_succ _)
  have hfrom := Lib.run_from_unsafe (P := Try.prog) w (src := 132) (dst := 54) (u := 56) ⟨b, 0, none⟩ Try.underlying132 Try.underlying54 hj hsh hT.2
  have hesc : (callFunc 108 #[.pointer (some ⟨b, 0, none⟩)]).run Try.prog w = .ok (.value (.pointer (some ⟨b, 0, none⟩))) w := by
    rw [run_callFunc_extern Try.func108 (by kernel_rfl) (by kernel_rfl) (by kernel_rfl) (e := Extern.AbiNoEscape.same) (by kernel_rfl), Lib.run_noEscape]
    rfl
  clear hT
  go_enter Try.func89, Try.ntmps89
  go_wp2
  go_end0
  exact ⟨rfl, rfl⟩
/-- all blocks but b, and but rows of bytes, are as they were. -/
def Oth (b : Nat) (w w' : World) : Prop := ∀ c cs T fr, c ≠ b → T ≠ 5 → w.heap[c]? = some (.cells cs T fr) → w'.heap[c]? = some (.cells cs T fr)
theorem Oth.trans {b : Nat} {w w1 w2 : World} (h : Oth b w w1) (k : Oth b w1 w2) : Oth b w w2 := fun c cs T fr hc hT hh => k c cs T fr hc hT (h c cs T fr hc hT hh)
theorem Oth.below {b : Nat} {w w' : World} (h : Below w.heap.size w w') : Oth b w w' := fun c _ _ _ _ _ hh => (h.block c (row_lt hh)).trans hh
/-- behind copyCheck: the builder knows its own place. -/
def BSelf (T : TypeId) (B b : Nat) (v : Value) (bs rest : List Value) (w0 w : World) : Prop :=
  w.heap[b]? = some (.cells (fcs (.pointer (some ⟨b, 0, none⟩)) v rest) T (0, 0)) ∧ w.ownsRow B 5 1 v bs.length bs ∧ Keeps B b w0 w ∧ w.heap.size = w0.heap.size ∧ ∀ c, c ≠ b → w.heap[c]? = w0.heap[c]?
theorem fcopyCheck_any (T : TypeId) (B b : Nat) (bs rest : List Value) (w : World) (hT : LiesB T rest.length) (h : BF T B b bs rest w) :
    ∃ v, Calls Try.prog 89 #[.pointer (some ⟨b, 0, none⟩)] w fun e w' => e = .returned (.tuple #[]) ∧ BSelf T B b v bs rest w w' := by
  obtain ⟨p, v, hp, hb, hown⟩ := h
  have hne := Lib.ownBlock_ne hown hb hT.1
  have c0 := fcs_0 hb
  rcases hp with rfl | rfl
  · refine ⟨v, (fcopyCheck_fresh T rest.length b w hT c0 (by simp [World.shape?, hb, fcs]) (row_free hb 0)).mono ?_⟩
    rintro e w' ⟨rfl, rfl⟩
    exact ⟨rfl, fset_0 hb, hown.kept (fset_grown w b 0 _) (.inr hne), set_keeps B b w 0 _, by simp [World.setCell], fun c hc => Below.heap_setCell w ⟨b, 0, none⟩ _ c hc⟩
  · refine ⟨v, (fcopyCheck_used b w c0).mono ?_⟩
    rintro e w' ⟨rfl, rfl⟩
    exact ⟨rfl, hb, hown, Keeps.refl _ _ _, rfl, fun _ _ => rfl⟩
/-- behind an append to the builder's bytes. -/
theorem BSelf.put {T : TypeId} {B b : Nat} {bs rest new : List Value} {v v' : Value} {w0 w1 w2 : World} (hT : T ≠ 5) (h : BSelf T B b v bs rest w0 w1) {wx : World} (hx : Keeps w1.heap.size w1.heap.size w1 wx) (hg : wx.grownBy w2 v.ownBlock) (hown : w2.ownsRow B 5 1 v' (bs ++ new).length (bs ++ new)) :
    w2.heap[b]? = some (.cells (fcs (.pointer (some ⟨b, 0, none⟩)) v rest) T (0, 0)) ∧ BF T B b (bs ++ new) rest (w2.setCell ⟨b, 1, none⟩ v') ∧ (B ≤ w1.heap.size → Keeps B b w0 (w2.setCell ⟨b, 1, none⟩ v')) ∧ Oth b w0 (w2.setCell ⟨b, 1, none⟩ v') := by
  obtain ⟨hb, ho, hk, _, hoth⟩ := h
  have hne := Lib.ownBlock_ne ho hb hT
  have hlt : b < w1.heap.size := row_lt hb
  have h2 : w2.heap[b]? = some (.cells (fcs (.pointer (some ⟨b, 0, none⟩)) v rest) T (0, 0)) :=
    (hg.block b (Nat.lt_of_lt_of_le hlt hx.size) (Ne.symm hne)).trans ((hx.block b hlt (by omega)).trans hb)
  have hne2 := Lib.ownBlock_ne hown h2 hT
  refine ⟨h2, ⟨_, _, .inr rfl, fset_1 h2, hown.kept (fset_grown w2 b 1 _) (.inr hne2)⟩, fun hB => hk.trans ?_, fun c cs T' fr hc hT' hh => ?_⟩
  rotate_left
  · have h1 : w1.heap[c]? = some (.cells cs T' fr) := (hoth c hc).trans hh
    have hl1 := row_lt h1
    have hne3 := Lib.ownBlock_ne ho h1 hT'
    rw [Below.heap_setCell w2 ⟨b, 1, none⟩ _ c hc]
    exact (hg.block c (Nat.lt_of_lt_of_le hl1 hx.size) (Ne.symm hne3)).trans ((hx.block c hl1 (by omega)).trans h1)
  refine Keeps.trans (c := w2) ⟨hg.os.trans hx.os, hg.tape.trans hx.tape, hg.output.trans hx.output, Nat.le_trans hx.size hg.size, fun k hk' hn => ?_⟩ (set_keeps B b w2 1 _)
  refine (hg.block k (Nat.lt_of_lt_of_le (Nat.lt_of_lt_of_le hk' hB) hx.size) (fun e => ?_)).trans (hx.block k (by omega) (by omega))
  have := (ho.lt k e.symm).1
  omega
theorem falloc_keeps (w : World) (x : Obj) : Keeps w.heap.size w.heap.size w (w.alloc x) := Keeps.of_below ((Below.refl _ w).alloc (Nat.le_refl _) x)
theorem fown_form {w : World} {B e n : Nat} {v : Value} {xs : List Value} (h : w.ownsRow B e 1 v (n + 1) xs) : ∃ g cap, v = .slice (some ⟨g, 0, none⟩) (n + 1) cap :=
  h.2.elim (fun h0 => absurd h0.2 (by omega)) (fun ⟨g, cap, _, hv, _⟩ => ⟨g, cap, hv⟩)
theorem fown_any {w : World} {B e n : Nat} {v : Value} {xs : List Value} (h : w.ownsRow B e 1 v n xs) : ∃ A cap, v = .slice A n cap := by
  rcases h.2 with ⟨rfl, rfl⟩ | ⟨g, cap, _, rfl, _⟩
  · exact ⟨none, 0, rfl⟩
  · exact ⟨_, cap, rfl⟩
set_option maxHeartbeats 1000000 in
theorem fwriteByteO_any (T : TypeId) (B b : Nat) (bs rest : List Value) (c : Int) (w : World) (hT : LiesB T rest.length) (h : BF T B b bs rest w) (hlen : bs.length ≤ 1099511627776) (hBw : B ≤ w.heap.size) :
    Calls Try.prog 61 #[.pointer (some ⟨b, 0, none⟩), .int .u8 c] w fun e w' => e = .returned .nilIface ∧ (BF T B b (bs ++ [.int .u8 c]) rest w' ∧ Keeps B b w w' ∧ Oth b w w') := by
  obtain ⟨i0, hi, hz0, hz1, hz2⟩ := info_parts fbinfo5
  obtain ⟨v, hcc⟩ := fcopyCheck_any T B b bs rest w hT h
  have HC := Lib.hid hcc
  have HT := Lib.hid hT.1
  clear hcc h hT
  go_enter Try.func61, Try.ntmps61
  go_wp2_with (first | (go_at_call 89; refine HC.out.mono ?_; rintro e w1 ⟨rfl, hS⟩; have hT := Lib.hid hS; have hsz := Nat.le_trans hBw (Nat.le_of_eq hS.2.2.2.1.symm); have c1 := fcs_1 hS.1; clear hS) | (at_builtin; refine wpList_append_own _ rfl _ _ 22 rfl B 5 i0 (.int .u8 0) 1 1 Try.underlying22 hi hz0 hz1 hz2 rfl (by decide) v _ _ rfl (hT.out.2.1.alloc _) ⟨w1.heap.size, 0, none⟩ 1 1 [.int .u8 c] rfl rfl (cell_one_new _ _ _) (by simp [Value.oneCell']) (by unfold maxLen; omega) (by omega) (by simp; omega) ?_; intro v' w2 hown' hgrow _; obtain ⟨h2, hU, hKp, hOt⟩ := hT.out.put HT.out (new := [.int .u8 c]) (falloc_keeps w1 _) hgrow (by rw [List.length_append]; exact hown'); have d1 := fcs_1 h2; have f1 := row_free h2 1; obtain ⟨g, cap, rfl⟩ := fown_form hown'; clear h2 hgrow))
  go_ret
  exact ⟨rfl, hU, hKp hsz, hOt⟩
theorem fwriteByte_any (T : TypeId) (B b : Nat) (bs rest : List Value) (c : Int) (w : World) (hT : LiesB T rest.length) (h : BF T B b bs rest w) (hlen : bs.length ≤ 1099511627776) (hBw : B ≤ w.heap.size) :
    Calls Try.prog 61 #[.pointer (some ⟨b, 0, none⟩), .int .u8 c] w fun e w' => e = .returned .nilIface ∧ (BF T B b (bs ++ [.int .u8 c]) rest w' ∧ Keeps B b w w') :=
  (fwriteByteO_any T B b bs rest c w hT h hlen hBw).mono fun _ _ ⟨h1, h2, h3, _⟩ => ⟨h1, h2, h3⟩
set_option maxHeartbeats 1000000 in
set_option maxRecDepth 100000 in
theorem fwriteString_any (T : TypeId) (B b : Nat) (bs rest : List Value) (s : ByteArray) (w : World) (hTT : LiesB T rest.length) (h : BF T B b bs rest w) (hlen : bs.length ≤ 1099511627776) (hs : s.size ≤ 1099511627776) (hBw : B ≤ w.heap.size) :
    Calls Try.prog 93 #[.pointer (some ⟨b, 0, none⟩), .string s] w fun e w' => e = .returned (.tuple #[.int .i64 s.size, .nilIface]) ∧ (BF T B b (bs ++ Lib.strCells s) rest w' ∧ Keeps B b w w') := by
  obtain ⟨i0, hi, hz0, hz1, hz2⟩ := info_parts fbinfo5
  obtain ⟨v, hcc⟩ := fcopyCheck_any T B b bs rest w hTT h
  have HC := Lib.hid hcc
  have HT := Lib.hid hTT.1
  clear hcc h hTT
  have hsl := Lib.strCells_length s
  have HSL := Lib.hid hsl
  clear hsl
  go_enter Try.func93, Try.ntmps93
  go_wp2_with (first | (go_at_call 89; refine HC.out.mono ?_; rintro e w1 ⟨rfl, hS⟩; have hT := Lib.hid hS; have hsz := Nat.le_trans hBw (Nat.le_of_eq hS.2.2.2.1.symm); have c1 := fcs_1 hS.1; clear hS) | (at_builtin; go_must (refine Lib.wpList_append_own_string _ rfl (.tmp 12) (.tmp 13) 22 9 rfl B 5 i0 Try.underlying22 Try.underlying9 hi hz0 hz1 hz2 v _ _ rfl hT.out.2.1 s rfl (by unfold maxLen; omega) (by omega) hsz ?_); intro v' w2 hown' hgrow _; obtain ⟨h2, hU, hKp, _⟩ := hT.out.put HT.out (new := Lib.strCells s) (Keeps.refl _ _ _) hgrow (by rw [List.length_append, HSL.out]; exact hown'); have d1 := fcs_1 h2; have f1 := row_free h2 1; obtain ⟨g, cap, rfl⟩ := fown_any hown'; clear h2 hgrow))
  go_ret2
  exact ⟨rfl, hU, hKp hsz⟩
theorem flen_any (T : TypeId) (B b : Nat) (bs rest : List Value) (w : World) (h : BF T B b bs rest w) :
    Calls Try.prog 96 #[.pointer (some ⟨b, 0, none⟩)] w fun e w' => e = .returned (.int .i64 bs.length) ∧ w = w' := by
  obtain ⟨p, v, hp, hb, hown⟩ := h
  obtain ⟨g, cap, rfl⟩ := fown_any hown
  have c1 := fcs_1 hb
  clear hb hown hp
  go_enter Try.func96, Try.ntmps96
  go_wp2
  go_ret
  exact ⟨rfl, rfl⟩
set_option maxHeartbeats 2000000 in
set_option maxRecDepth 100000 in
theorem fstring_any (T : TypeId) (B b : Nat) (l : List UInt8) (rest : List Value) (w : World) (h : BF T B b (Lib.byteCells l) rest w) (hBw : B ≤ w.heap.size) :
    Calls Try.prog 40 #[.pointer (some ⟨b, 0, none⟩)] w fun e w' => e = .returned (.string ⟨l.toArray⟩) ∧ Below B w w' := by
  obtain ⟨p, v, hp, hbk, hown⟩ := h
  have c1 : w.drew.cell? ⟨b, 1, none⟩ = some v := fcs_1 (w := w.drew) hbk
  have hlt := row_lt hbk
  rw [Lib.byteCells_length] at hown
  clear hp
  by_cases h0 : l = []
  · subst h0
    have hUS := fun (W : World) (q : Option Addr) => Lib.run_unsafeString_none (P := Try.prog) W 94 3 9 q
    rcases hown.2 with ⟨rfl, _⟩ | ⟨g, cap, cur, rfl, hbg, hg, hnc, hcm, hcs, htake⟩
    · have hSD : (Builtin.unsafeSliceData_ #[22] 94 #[.slice none 0 0]).run Try.prog w.drew = .ok (.pointer none) w.drew := rfl
      clear hbk hown
      go_enter Try.func40, Try.ntmps40
      go_wp2
      go_region
      all_goals (go_wp2; go_ret; exact ⟨rfl, Below.drew (Below.refl B w)⟩)
    · by_cases hc0 : cap = 0
      · subst hc0
        have hSD : (Builtin.unsafeSliceData_ #[22] 94 #[.slice (some ⟨g, 0, none⟩) 0 0]).run Try.prog w.drew = .ok (.pointer (some ⟨w.drew.heap.size, 0, none⟩)) (w.drew.alloc (.view ⟨g, 0, none⟩ 5)) :=
          Lib.run_unsafeSliceData_zero w.drew _ _ 5 Try.underlying94 ⟨g, 0, none⟩ 0 (5, cur.size) (by have hg' : w.drew.heap[g]? = some (.cells cur 5 (0, 0)) := hg; simp [World.shape?, hg'])
        have c2 : (w.drew.alloc (.view ⟨g, 0, none⟩ 5)).cell? ⟨b, 1, none⟩ = some (.slice (some ⟨g, 0, none⟩) 0 0) := fcs_1 (w := w.drew.alloc (.view ⟨g, 0, none⟩ 5)) ((Lib.alloc_old w.drew _ b hlt).trans hbk)
        have c3 : (w.alloc (.view ⟨g, 0, none⟩ 5)).drew.cell? ⟨b, 1, none⟩ = some (.slice (some ⟨g, 0, none⟩) 0 0) := c2
        have c0 : w.cell? ⟨b, 1, none⟩ = some (.slice (some ⟨g, 0, none⟩) 0 0) := c1
        clear hbk hown
        go_enter Try.func40, Try.ntmps40
        go_wp2
        go_region
        all_goals (go_wp2; go_ret; exact ⟨rfl, (Below.drew (Below.refl B w)).alloc hBw _⟩)
      · have hSD : (Builtin.unsafeSliceData_ #[22] 94 #[.slice (some ⟨g, 0, none⟩) 0 cap]).run Try.prog w.drew = .ok (.pointer (some ⟨g, 0, none⟩)) w.drew :=
          Lib.run_unsafeSliceData_row _ _ _ _ _ _ hc0
        clear hc0 hbk hown hnc hcm hcs
        go_enter Try.func40, Try.ntmps40
        go_wp2
        go_region
        all_goals (go_wp2; go_ret; exact ⟨rfl, Below.drew (Below.refl B w)⟩)
  · have hl0 : l.length ≠ 0 := by simpa using h0
    obtain ⟨g, cap, cur, rfl, hbg, hg, hnc, hcm, hcs, htake⟩ : ∃ g cap cur, v = .slice (some ⟨g, 0, none⟩) l.length cap ∧ B ≤ g ∧ w.heap[g]? = some (.cells cur 5 (0, 0)) ∧ l.length ≤ cap ∧ cap ≤ maxLen ∧ cur.size = cap * 1 ∧ cur.toList.take (l.length * 1) = Lib.byteCells l := by
      rcases hown.2 with ⟨_, hz⟩ | ⟨g, cap, cur, hv, r⟩
      · exact absurd hz hl0
      · exact ⟨g, cap, cur, hv, r⟩
    have hSD : (Builtin.unsafeSliceData_ #[22] 94 #[.slice (some ⟨g, 0, none⟩) l.length cap]).run Try.prog w.drew = .ok (.pointer (some ⟨g, 0, none⟩)) w.drew :=
      Lib.run_unsafeSliceData_row _ _ _ _ _ _ (by omega)
    have hUS : (Builtin.unsafeString_ #[94, 3] 9 #[.pointer (some ⟨g, 0, none⟩), .int .i64 l.length]).run Try.prog w.drew = .ok (.string ⟨l.toArray⟩) (w.drew.freeze ⟨g, 0, none⟩ l.length) := by
      refine Lib.run_unsafeString_row w.drew 94 3 9 5 Try.underlying94 fbcells5 g cur.size (by have hg' : w.drew.heap[g]? = some (.cells cur 5 (0, 0)) := hg; simp [World.shape?, hg']) l h0 (by omega) (by unfold maxLen at hcm; omega) ?_
      intro j x hx
      have := hown.cells (g := g) rfl j (.int .u8 x.toNat) (by simp [Lib.byteCells, hx])
      exact this
    go_enter Try.func40, Try.ntmps40
    go_wp2
    go_region
    all_goals (go_wp2; go_ret; exact ⟨rfl, Lib.below_freeze (Below.drew (Below.refl B w)) (p := ⟨g, 0, none⟩) hbg _⟩)
end Go.Proofs.Ytgeldgikjcihgaa
