/- strings.Builder's WriteString and Len: a builder that the call itself has made. -/
import Derived.Test.YtliiffpegfkpbabDoorBuilder
import Derived.Lib.AppendStr
import Derived.Deep.DeepMust
namespace Go.Proofs.YtliiffpegfkpbabDoor
open Go.RowKit
theorem own_any {w : World} {B e n : Nat} {v : Value} {xs : List Value} (h : w.ownsRow B e 1 v n xs) : ∃ A cap, v = .slice A n cap := by
  rcases h.2 with ⟨rfl, rfl⟩ | ⟨g, cap, _, rfl, _⟩
  · exact ⟨none, 0, rfl⟩
  · exact ⟨_, cap, rfl⟩
theorem bld_below {B b : Nat} {bs : List Value} {w w' : World} (h : Bld B b bs w) (hb : Below w.heap.size w w') : Bld B b bs w' := by
  obtain ⟨p, v, hp, hr, hown⟩ := h
  exact ⟨p, v, hp, (hb.block b (row_lt hr)).trans hr, hown.kept (row := none) ⟨hb.os, hb.tape, hb.output, hb.size, fun k hk _ => hb.block k hk⟩ (Classical.em _)⟩
set_option maxHeartbeats 1000000 in
set_option maxRecDepth 100000 in
theorem writeString_any (B b : Nat) (bs : List Value) (s : ByteArray) (w : World) (h : Bld B b bs w) (hlen : bs.length ≤ 1099511627776) (hs : s.size ≤ 1099511627776) (hBw : B ≤ w.heap.size) :
    Calls Tryd.prog 28 #[.pointer (some ⟨b, 0, none⟩), .string s] w fun e w' => e = .returned (.tuple #[.int .i64 s.size, .nilIface]) ∧ (Bld B b (bs ++ Lib.strCells s) w' ∧ Keeps B b w w') := by
  obtain ⟨i0, hi, hz0, hz1, hz2⟩ := info_parts binfo5
  obtain ⟨v, hcc⟩ := copyCheck_any B b bs w h
  have HC := Lib.hid hcc
  clear hcc h
  have hsl := Lib.strCells_length s
  have HSL := Lib.hid hsl
  clear hsl
  go_enter Tryd.func28, Tryd.ntmps28
  go_wp2_with (first | (go_at_call 51; refine HC.out.mono ?_; rintro e w1 ⟨rfl, hS⟩; have hT := Lib.hid hS; have hsz := Nat.le_trans hBw (Nat.le_of_eq hS.2.2.2.symm); have c1 := (cell_pair hS.1).2; clear hS) | (at_builtin; go_must (refine Lib.wpList_append_own_string _ rfl (.tmp 12) (.tmp 13) 22 9 rfl B 5 i0 Tryd.underlying22 Tryd.underlying9 hi hz0 hz1 hz2 v _ _ rfl hT.out.2.1 s rfl (by unfold maxLen; omega) (by omega) hsz ?_); intro v' w2 hown' hgrow _; obtain ⟨h2, hU, hKp⟩ := hT.out.put (new := Lib.strCells s) (Keeps.refl _ _ _) hgrow (by rw [List.length_append, HSL.out]; exact hown'); have d1 := (cell_pair h2).2; have f1 := Lib.frozen_of_heap h2 1; obtain ⟨g, cap, rfl⟩ := own_any hown'; clear h2 hgrow))
  go_ret2
  exact ⟨rfl, hU, hKp hsz⟩
theorem len_any (B b : Nat) (bs : List Value) (w : World) (h : Bld B b bs w) :
    Calls Tryd.prog 30 #[.pointer (some ⟨b, 0, none⟩)] w fun e w' => e = .returned (.int .i64 bs.length) ∧ w = w' := by
  obtain ⟨p, v, hp, hb, hown⟩ := h
  obtain ⟨g, cap, rfl⟩ := own_any hown
  obtain ⟨_, c1⟩ := cell_pair hb
  clear hb hown hp
  go_enter Tryd.func30, Tryd.ntmps30
  go_wp2
  go_ret
  exact ⟨rfl, rfl⟩
end Go.Proofs.YtliiffpegfkpbabDoor
