/- Texts of the proof of the law FnExactRecordOf, side by side: part 0. -/
import Derived.Shelf.Strings.Builder1
import Derived.Shelf.Strings.Builder2
import Derived.Shelf.Strings.BuilderF
import Derived.Shelf.Strings.Prefix
import Derived.Shelf.Bits.Mul64
import Derived.Shelf.Strings.Repeat
import Derived.Test.YtehhbbdaeonebaaGreatDoorProg
import Derived.WalkKit
import Derived.WalkSpells
import Derived.WalkLawsBesides
import Derived.Lib.Hide
import Derived.OwnWalk
import Derived.Deep.QuietTactic
import Derived.BigQuiet
import Derived.Laws.OwnMore
import Derived.Deep.Slices
import Derived.Deep.Fields
import Derived.ChangeArms
import Derived.ChangeSame
import Derived.Deep.RegionWith
set_option maxHeartbeats 8000000
set_option maxRecDepth 100000
namespace Go.Proofs
open Go.Shelf
def Tryz.lays105_ren : Go.Shelf.Ren := ⟨fun | 105 => 75 | 212 => 95 | 99 => 96 | 165 => 97 | 166 => 98 | 170 => 99 | 169 => 100 | 263 => 118 | 264 => 119 | 206 => 120 | 240 => 121 | 241 => 122 | 276 => 139 | 277 => 140 | n => n, fun | 9 => 9 | 3 => 3 | 4 => 4 | 20 => 20 | 0 => 0 | 46 => 124 | 109 => 134 | 5 => 5 | 72 => 139 | 76 => 143 | 51 => 153 | 146 => 154 | 53 => 156 | 148 => 157 | 70 => 137 | 37 => 123 | 75 => 142 | 127 => 159 | 164 => 174 | 80 => 145 | n => n, fun | n => n⟩
theorem Tryz.lays105 : Go.Proofs.Lays.n105 Tryz.prog Tryz.lays105_ren := {
 mixed := by kernel_rfl
 f99 := Tryz.func96.trans (congrArg some (by kernel_rfl))
 f105 := Tryz.func75.trans (congrArg some (by kernel_rfl))
 f165 := Tryz.func97.trans (congrArg some (by kernel_rfl))
 f166 := Tryz.func98.trans (congrArg some (by kernel_rfl))
 f169 := Tryz.func100.trans (congrArg some (by kernel_rfl))
 f170 := Tryz.func99.trans (congrArg some (by kernel_rfl))
 f206 := Tryz.func120.trans (congrArg some (by kernel_rfl))
 f212 := Tryz.func95.trans (congrArg some (by kernel_rfl))
 f240 := Tryz.func121.trans (congrArg some (by kernel_rfl))
 f241 := Tryz.func122.trans (congrArg some (by kernel_rfl))
 f263 := Tryz.func118.trans (congrArg some (by kernel_rfl))
 f264 := Tryz.func119.trans (congrArg some (by kernel_rfl))
 f276 := Tryz.func139.trans (congrArg some (by kernel_rfl))
 f277 := Tryz.func140.trans (congrArg some (by kernel_rfl))
 t0 := Tryz.underlying0
 a0 := Tryz.isAgg0
 z0 := Tryz.sizeOf0
 v0 := Tryz.zeroValue0
 t3 := Tryz.underlying3
 a3 := Tryz.isAgg3
 z3 := Tryz.sizeOf3
 v3 := Tryz.zeroValue3
 t4 := Tryz.underlying4
 a4 := Tryz.isAgg4
 z4 := Tryz.sizeOf4
 v4 := Tryz.zeroValue4
 t5 := Tryz.underlying5
 a5 := Tryz.isAgg5
 z5 := Tryz.sizeOf5
 v5 := Tryz.zeroValue5
 t9 := Tryz.underlying9
 a9 := Tryz.isAgg9
 z9 := Tryz.sizeOf9
 v9 := Tryz.zeroValue9
 t20 := Tryz.underlying20
 a20 := Tryz.isAgg20
 z20 := Tryz.sizeOf20
 v20 := Tryz.zeroValue20
 t37 := Tryz.underlying123
 a37 := Tryz.isAgg123
 z37 := Tryz.sizeOf123
 v37 := Tryz.zeroValue123
 t46 := Tryz.underlying124
 a46 := Tryz.isAgg124
 z46 := Tryz.sizeOf124
 v46 := Tryz.zeroValue124
 t51 := Tryz.underlying153
 a51 := Tryz.isAgg153
 z51 := Tryz.sizeOf153
 v51 := Tryz.zeroValue153
 t53 := Tryz.underlying156
 a53 := Tryz.isAgg156
 z53 := Tryz.sizeOf156
 v53 := Tryz.zeroValue156
 t70 := Tryz.underlying137
 a70 := Tryz.isAgg137
 z70 := Tryz.sizeOf137
 v70 := Tryz.zeroValue137
 t72 := Tryz.underlying139
 a72 := Tryz.isAgg139
 z72 := Tryz.sizeOf139
 v72 := Tryz.zeroValue139
 t75 := Tryz.underlying142
 a75 := Tryz.isAgg142
 z75 := Tryz.sizeOf142
 v75 := Tryz.zeroValue142
 t76 := Tryz.underlying143
 a76 := Tryz.isAgg143
 z76 := Tryz.sizeOf143
 v76 := Tryz.zeroValue143
 t109 := Tryz.underlying134
 a109 := Tryz.isAgg134
 z109 := Tryz.sizeOf134
 v109 := Tryz.zeroValue134
 t127 := Tryz.underlying159
 a127 := Tryz.isAgg159
 z127 := Tryz.sizeOf159
 v127 := Tryz.zeroValue159
 t146 := Tryz.underlying154
 a146 := Tryz.isAgg154
 z146 := Tryz.sizeOf154
 v146 := Tryz.zeroValue154
 t148 := Tryz.underlying157
 a148 := Tryz.isAgg157
 z148 := Tryz.sizeOf157
 v148 := Tryz.zeroValue157
 t164 := Tryz.underlying174
 a164 := Tryz.isAgg174
 z164 := Tryz.sizeOf174
 v164 := Tryz.zeroValue174 }
theorem Tryz.Builder_Extra_105 : Builder.Extra Tryz.prog Tryz.lays105_ren := {
 sizeBuilder := by kernel_rfl
 liesBuilder := by kernel_rfl
 t5 := Tryz.underlying5
 a5 := Tryz.isAgg5
 z5 := Tryz.sizeOf5
 v5 := Tryz.zeroValue5
 infoByte := by kernel_rfl
 cellsByte := by kernel_rfl
 sizeByte := by kernel_rfl
 neB5 := by decide }
open Go.RowKit Go.Lib in
theorem Tryz.strings_Repeat (s : ByteArray) (c : Nat) (w : World) (hc : c ≤ 9223372036854775807) (hlen : s.size * c ≤ 140737488355328) :
 Calls Tryz.prog 75 #[.string s, .int .i64 c] w fun e w' => e = .returned (.string ⟨(Lib.repeatL s.data.toList c).toArray⟩) ∧ Below w.heap.size w w' := Any.strings_Repeat Tryz.lays105 Tryz.Builder_Extra_105 s c w hc hlen
end Go.Proofs
namespace Go.Proofs.YtehhbbdaeonebaaGreatDoor
open Go.RowKit
theorem ret_bool {a b : Bool} (h : a = b) : Ending.returned (.bool a) = .returned (.bool b) := by rw [h]
theorem ret_int {k : IntKind} {a b : Int} (h : a = b) : Ending.returned (.int k a) = .returned (.int k b) := by rw [h]
theorem wf_bd {n : Int} (h : (Lit.int .i64 n).wf = true) : -9223372036854775808 ≤ n ∧ n ≤ 9223372036854775807 := by
 simp [Lit.wf, IntKind.min, IntKind.max, IntKind.bits, IntKind.signed] at h
 omega
def inB (n a b : Int) : Bool := decide (a ≤ n ∧ n ≤ b)
theorem l1In_any (n a b : Int) (w : World) :
 Calls Tryz.prog 27 #[.int .i64 n, .int .i64 a, .int .i64 b] w fun e w' => e = .returned (.bool (inB n a b)) ∧ w = w' := by
 by_cases h1 : a ≤ n
 all_goals
  go_enter Tryz.func27, Tryz.ntmps27
  go_wp2
  all_goals go_ret
  all_goals refine ⟨ret_bool ?_, rfl⟩
  all_goals (simp [inB]; try omega)
structure Keeps (B b : Nat) (w w' : World) : Prop where
 os : w'.os = w.os
 tape : w'.tape = w.tape
 output : w'.output = w.output
 size : w.heap.size ≤ w'.heap.size
 block : ∀ k, k < B → k ≠ b → w'.heap[k]? = w.heap[k]?
theorem Keeps.trans {B b : Nat} {a c d : World} (h : Keeps B b a c) (k : Keeps B b c d) : Keeps B b a d :=
 ⟨k.os.trans h.os, k.tape.trans h.tape, k.output.trans h.output, Nat.le_trans h.size k.size, fun x hx hn => (k.block x hx hn).trans (h.block x hx hn)⟩
theorem Keeps.mono {B B' b : Nat} {w w' : World} (h : Keeps B b w w') (h1 : B' ≤ B) : Keeps B' b w w' :=
 ⟨h.os, h.tape, h.output, h.size, fun k hk => h.block k (Nat.lt_of_lt_of_le hk h1)⟩
theorem Keeps.below {B B' b : Nat} {w w' : World} (h : Keeps B b w w') (h1 : B' ≤ B) (h2 : B' ≤ b) : Below B' w w' :=
 ⟨h.os, h.tape, h.output, h.size, fun k hk => h.block k (Nat.lt_of_lt_of_le hk h1) (by omega)⟩
theorem Keeps.of_below {B b : Nat} {w w' : World} (h : Below B w w') : Keeps B b w w' := ⟨h.os, h.tape, h.output, h.size, fun k hk _ => h.block k hk⟩
theorem set_keeps (B b : Nat) (w : World) (i : Nat) (u : Value) : Keeps B b w (w.setCell ⟨b, i, none⟩ u) :=
 ⟨rfl, rfl, rfl, by simp [World.setCell], fun k _ hk => Below.heap_setCell w ⟨b, i, none⟩ u k hk⟩
theorem row_free {w : World} {g : Nat} {cs : Array Value} {t : TypeId} (h : w.heap[g]? = some (.cells cs t (0, 0))) (i : Nat) : w.frozen? ⟨g, i, none⟩ = false := by
 simp [World.frozen?, h]
theorem row_lt {w : World} {g : Nat} {o : Obj} (h : w.heap[g]? = some o) : g < w.heap.size := by
 rcases Nat.lt_or_ge g w.heap.size with hlt | hge
 · exact hlt
 · rw [Array.getElem?_eq_none hge] at h; cases h
theorem addr_block (a : Addr) (i : Nat) : (a.add i).block = a.block := by unfold Addr.add; split <;> rfl
end Go.Proofs.YtehhbbdaeonebaaGreatDoor
namespace Go.Proofs.YtehhbbdaeonebaaGreatDoor
open Go.RowKit Go.ChangeShapes Go.WideShapes Go.Deep
inductive Nd where
 | mk (kind : Int) (data : ByteArray) (ptrs : List Nd) (size count : Int) (items : List Nd)
namespace Nd
def kind : Nd → Int | .mk k _ _ _ _ _ => k
def data : Nd → ByteArray | .mk _ d _ _ _ _ => d
def ptrs : Nd → List Nd | .mk _ _ p _ _ _ => p
def size : Nd → Int | .mk _ _ _ s _ _ => s
def count : Nd → Int | .mk _ _ _ _ c _ => c
def items : Nd → List Nd | .mk _ _ _ _ _ i => i
end Nd
instance : Inhabited Nd := ⟨.mk 0 ByteArray.empty [] 0 0 []⟩
structure Hd where
 A : Option Addr
 a : Nat
 B : Option Addr
 b : Nat
instance : Inhabited Hd := ⟨⟨none, 0, none, 0⟩⟩
structure NdCell (w : World) (p : Addr) (n : Nd) (h : Hd) : Prop where
 c0 : w.cell? p = some (.int .i64 n.kind)
 c1 : w.cell? ⟨p.block, p.off + 1, none⟩ = some (.string n.data)
 c2 : w.cell? ⟨p.block, p.off + 2, none⟩ = some (.slice h.A n.ptrs.length h.a)
 c3 : w.cell? ⟨p.block, p.off + 3, none⟩ = some (.int .i64 n.size)
 c4 : w.cell? ⟨p.block, p.off + 4, none⟩ = some (.int .i64 n.count)
 c5 : w.cell? ⟨p.block, p.off + 5, none⟩ = some (.slice h.B n.items.length h.b)
theorem NdCell.map {w w' : World} {p : Addr} {n : Nd} {h : Hd} (hc : NdCell w p n h) (hf : ∀ i v, w.cell? ⟨p.block, p.off + i, none⟩ = some v → w'.cell? ⟨p.block, p.off + i, none⟩ = some v) (h0 : ∀ v, w.cell? p = some v → w'.cell? p = some v) : NdCell w' p n h :=
 ⟨h0 _ hc.c0, hf _ _ hc.c1, hf _ _ hc.c2, hf _ _ hc.c3, hf _ _ hc.c4, hf _ _ hc.c5⟩
theorem NdCell.lt {w : World} {p : Addr} {n : Nd} {h : Hd} (hc : NdCell w p n h) : p.block < w.heap.size := World.block_lt_of_cell? w _ hc.c0
theorem NdCell.block {w w' : World} {p : Addr} {n : Nd} {h : Hd} (hc : NdCell w p n h) (hb : w'.heap[p.block]? = w.heap[p.block]?) : NdCell w' p n h :=
 hc.map (fun i _v h => (World.cell?_of_block (w := w) (w' := w') (a := ⟨p.block, p.off + i, none⟩) hb).trans h) (fun _v h => (World.cell?_of_block (w := w) (w' := w') (a := p) hb).trans h)
def NdsAt (w : World) (S : Nat → Prop) : Nat → Option Addr → List Nd → Prop
 | 0, _, l => l = []
 | m + 1, A, l => l.length ≤ maxLen ∧ ∃ q : List (Nd × Hd), q.map (·.1) = l ∧ (q = [] ∨ ∃ x : Addr, A = some x ∧ S x.block ∧ ∀ k r, q[k]? = some r → NdCell w (x.add (k * 6)) r.1 r.2) ∧
    ∀ r ∈ q, r.1.data.size ≤ maxLen ∧ NdsAt w S m r.2.A r.1.ptrs ∧ NdsAt w S m r.2.B r.1.items
def NdAt (w : World) (S : Nat → Prop) (m : Nat) (n : Nd) (h : Hd) : Prop := n.data.size ≤ maxLen ∧ NdsAt w S m h.A n.ptrs ∧ NdsAt w S m h.B n.items
abbrev Any : Nat → Prop := fun _ => True
theorem NdsAt.map {w w' : World} {S S' : Nat → Prop} (hS : ∀ k, S k → S' k) (hf : ∀ p n h, S p.block → NdCell w p n h → NdCell w' p n h) : ∀ m A l, NdsAt w S m A l → NdsAt w' S' m A l
 | 0, _, _, h => h
 | m + 1, A, l, ⟨hl, q, hq, hc, hr⟩ => ⟨hl, q, hq, hc.imp id (fun ⟨x, hx, hs, hk⟩ => ⟨x, hx, hS _ hs, fun k r h => hf _ _ _ (by rw [addr_block]; exact hs) (hk k r h)⟩), fun r h => ⟨(hr r h).1, NdsAt.map hS hf m _ _ (hr r h).2.1, NdsAt.map hS hf m _ _ (hr r h).2.2⟩⟩
theorem NdAt.map {w w' : World} {S S' : Nat → Prop} {m : Nat} {n : Nd} {h : Hd} (hS : ∀ k, S k → S' k) (hf : ∀ p n h, S p.block → NdCell w p n h → NdCell w' p n h) (hn : NdAt w S m n h) : NdAt w' S' m n h := ⟨hn.1, NdsAt.map hS hf _ _ _ hn.2.1, NdsAt.map hS hf _ _ _ hn.2.2⟩
theorem cell_below {w w' : World} (hb : Below w.heap.size w w') : ∀ p n h, NdCell w p n h → NdCell w' p n h := fun p _ _ hc => hc.block (hb.block p.block hc.lt)
theorem NdsAt.below {w w' : World} {S : Nat → Prop} {m : Nat} {A : Option Addr} {l : List Nd} (h : NdsAt w S m A l) (hb : Below w.heap.size w w') : NdsAt w' S m A l := NdsAt.map (fun _ h => h) (fun p n h _ hc => cell_below hb p n h hc) _ _ _ h
theorem NdAt.below {w w' : World} {S : Nat → Prop} {m : Nat} {n : Nd} {h : Hd} (hn : NdAt w S m n h) (hb : Below w.heap.size w w') : NdAt w' S m n h := hn.map (fun _ h => h) (fun p n h _ hc => cell_below hb p n h hc)
theorem NdsAt.weak {w : World} {S S' : Nat → Prop} {m : Nat} {A : Option Addr} {l : List Nd} (h : NdsAt w S m A l) (hS : ∀ k, S k → S' k) : NdsAt w S' m A l := NdsAt.map hS (fun _ _ _ _ hc => hc) _ _ _ h
theorem NdAt.weak {w : World} {S S' : Nat → Prop} {m : Nat} {n : Nd} {h : Hd} (hn : NdAt w S m n h) (hS : ∀ k, S k → S' k) : NdAt w S' m n h := hn.map hS (fun _ _ _ _ hc => hc)
theorem NdsAt.nil (w : World) (S : Nat → Prop) (m : Nat) (A : Option Addr) : NdsAt w S m A [] := by
 cases m with
 | zero => exact rfl
 | succ m => exact ⟨by decide, [], rfl, .inl rfl, fun r h => by cases h⟩
theorem NdsAt.succ {w : World} {S : Nat → Prop} : ∀ m A l, NdsAt w S m A l → NdsAt w S (m + 1) A l
 | 0, A, l, h => by
   obtain rfl : l = [] := h
   exact NdsAt.nil _ _ _ _
 | m + 1, A, l, ⟨hl, q, hq, hc, hr⟩ => ⟨hl, q, hq, hc, fun r h => ⟨(hr r h).1, NdsAt.succ m _ _ (hr r h).2.1, NdsAt.succ m _ _ (hr r h).2.2⟩⟩
theorem NdsAt.mono {w : World} {S : Nat → Prop} {m k : Nat} {A : Option Addr} {l : List Nd} (h : NdsAt w S m A l) (hk : m ≤ k) : NdsAt w S k A l := by
 induction hk with
 | refl => exact h
 | step _ ih => exact NdsAt.succ _ _ _ ih
theorem NdAt.mono {w : World} {S : Nat → Prop} {m k : Nat} {n : Nd} {h : Hd} (hn : NdAt w S m n h) (hk : m ≤ k) : NdAt w S k n h := ⟨hn.1, hn.2.1.mono hk, hn.2.2.mono hk⟩
theorem NdsAt.len {w : World} {S : Nat → Prop} {m : Nat} {A : Option Addr} {l : List Nd} (h : NdsAt w S m A l) : l.length ≤ maxLen := by
 cases m with
 | zero =>
  obtain rfl : l = [] := h
  decide
 | succ m => exact h.1
theorem NdsAt.at_ {w : World} {S : Nat → Prop} {m : Nat} {A : Option Addr} {l : List Nd} (h : NdsAt w S (m + 1) A l) {k : Nat} (hk : k < l.length) :
 ∃ x hd, A = some x ∧ NdCell w (x.add (k * 6)) l[k] hd ∧ NdAt w S m l[k] hd := by
 obtain ⟨_, q, rfl, hc, hr⟩ := h
 rw [List.length_map] at hk
 rcases hc with rfl | ⟨x, hx, _, hc⟩
 · cases hk
 · refine ⟨x, (q[k]).2, hx, ?_, ?_⟩
   · rw [List.getElem_map]; exact hc k _ (List.getElem?_eq_getElem hk)
   · rw [List.getElem_map]; exact hr _ (List.getElem_mem hk)
theorem NdsAt.zero {w : World} {S : Nat → Prop} {A : Option Addr} {l : List Nd} (h : NdsAt w S 0 A l) : l = [] := h
theorem NdsAt.pred {w : World} {S : Nat → Prop} {m : Nat} {A : Option Addr} {l : List Nd} (h : NdsAt w S m A l) {k : Nat} (hk : k < l.length) : ∃ j, m = j + 1 := by
 cases m with
 | zero => rw [h.zero] at hk; cases hk
 | succ j => exact ⟨j, rfl⟩
def rowOf : List (Nd × Hd) → List Value
 | [] => []
 | r :: t => .int .i64 r.1.kind :: .string r.1.data :: .slice r.2.A r.1.ptrs.length r.2.a :: .int .i64 r.1.size :: .int .i64 r.1.count :: .slice r.2.B r.1.items.length r.2.b :: rowOf t
theorem rowOf_length : ∀ q, (rowOf q).length = q.length * 6
 | [] => rfl
 | r :: t => by simp only [rowOf, List.length_cons, rowOf_length t]; omega
theorem rowOf_app : ∀ (q p : List (Nd × Hd)), rowOf (q ++ p) = rowOf q ++ rowOf p
 | [], _ => rfl
 | r :: t, p => by rw [List.cons_append, rowOf, rowOf_app t p]; rfl
theorem rowOf_at : ∀ (q : List (Nd × Hd)) (k : Nat) (r : Nd × Hd), q[k]? = some r →
 (rowOf q)[k * 6]? = some (.int .i64 r.1.kind) ∧ (rowOf q)[k * 6 + 1]? = some (.string r.1.data) ∧ (rowOf q)[k * 6 + 2]? = some (.slice r.2.A r.1.ptrs.length r.2.a) ∧
 (rowOf q)[k * 6 + 3]? = some (.int .i64 r.1.size) ∧ (rowOf q)[k * 6 + 4]? = some (.int .i64 r.1.count) ∧ (rowOf q)[k * 6 + 5]? = some (.slice r.2.B r.1.items.length r.2.b)
 | [], k, r, h => by simp at h
 | p :: t, 0, r, h => by
   obtain rfl : p = r := by simpa using h
   exact ⟨rfl, rfl, rfl, rfl, rfl, rfl⟩
 | p :: t, k + 1, r, h => by
   have := rowOf_at t k r (by simpa using h)
   rw [show (k + 1) * 6 = k * 6 + 1 + 1 + 1 + 1 + 1 + 1 by omega]
   exact this
theorem rowOf_one : ∀ (q : List (Nd × Hd)), ∀ u ∈ rowOf q, u.oneCell' = true
 | [], _, h => by cases h
 | r :: t, u, h => by
   rcases List.mem_cons.1 h with rfl | h
   · rfl
   rcases List.mem_cons.1 h with rfl | h
   · rfl
   rcases List.mem_cons.1 h with rfl | h
   · rfl
   rcases List.mem_cons.1 h with rfl | h
   · rfl
   rcases List.mem_cons.1 h with rfl | h
   · rfl
   rcases List.mem_cons.1 h with rfl | h
   · rfl
   exact rowOf_one t u h
theorem add_offs (x : Addr) (n m : Nat) (hm : 0 < m) : (⟨(x.add n).block, (x.add n).off + m, none⟩ : Addr) = x.add (n + m) := by
 by_cases h : n = 0
 · subst h
   simp only [Addr.add, if_true, Nat.zero_add]
   rw [if_neg (by omega)]
 · simp only [Addr.add, h, if_false]
   rw [if_neg (by omega)]
   simp <;> omega
theorem cell_of_adds {w : World} {x : Addr} {n : Nd} {h : Hd} {k : Nat} (h0 : w.cell? (x.add (k * 6)) = some (.int .i64 n.kind)) (h1 : w.cell? (x.add (k * 6 + 1)) = some (.string n.data)) (h2 : w.cell? (x.add (k * 6 + 2)) = some (.slice h.A n.ptrs.length h.a)) (h3 : w.cell? (x.add (k * 6 + 3)) = some (.int .i64 n.size)) (h4 : w.cell? (x.add (k * 6 + 4)) = some (.int .i64 n.count)) (h5 : w.cell? (x.add (k * 6 + 5)) = some (.slice h.B n.items.length h.b)) : NdCell w (x.add (k * 6)) n h :=
 ⟨h0, by rw [add_offs _ _ 1 (by decide)]; exact h1, by rw [add_offs _ _ 2 (by decide)]; exact h2, by rw [add_offs _ _ 3 (by decide)]; exact h3, by rw [add_offs _ _ 4 (by decide)]; exact h4, by rw [add_offs _ _ 5 (by decide)]; exact h5⟩
theorem cells_at {w : World} {x : Addr} {q : List (Nd × Hd)} (h : ∀ k r, q[k]? = some r → NdCell w (x.add (k * 6)) r.1 r.2) : ∀ j u, (rowOf q)[j]? = some u → w.cell? (x.add j) = some u := by
 intro j u hj
 have hlt : j < (rowOf q).length := by
  rcases Nat.lt_or_ge j (rowOf q).length with h' | h'
  · exact h'
  · rw [List.getElem?_eq_none h'] at hj; cases hj
 rw [rowOf_length] at hlt
 have hk : j / 6 < q.length := by omega
 obtain ⟨a0, a1, a2, a3, a4, a5⟩ := rowOf_at q (j / 6) q[j / 6] (List.getElem?_eq_getElem hk)
 obtain ⟨b0, b1, b2, b3, b4, b5⟩ := h (j / 6) q[j / 6] (List.getElem?_eq_getElem hk)
 rw [add_offs _ _ 1 (by decide)] at b1
 rw [add_offs _ _ 2 (by decide)] at b2
 rw [add_offs _ _ 3 (by decide)] at b3
 rw [add_offs _ _ 4 (by decide)] at b4
 rw [add_offs _ _ 5 (by decide)] at b5
 have hcase : j = j / 6 * 6 ∨ j = j / 6 * 6 + 1 ∨ j = j / 6 * 6 + 2 ∨ j = j / 6 * 6 + 3 ∨ j = j / 6 * 6 + 4 ∨ j = j / 6 * 6 + 5 := by omega
 generalize j / 6 * 6 = z at *
 rcases hcase with e | e | e | e | e | e <;> subst e
 · rw [a0] at hj; cases hj; exact b0
 · rw [a1] at hj; cases hj; exact b1
 · rw [a2] at hj; cases hj; exact b2
 · rw [a3] at hj; cases hj; exact b3
 · rw [a4] at hj; cases hj; exact b4
 · rw [a5] at hj; cases hj; exact b5
theorem at_cells {w : World} {x : Addr} {q : List (Nd × Hd)} (h : ∀ j u, (rowOf q)[j]? = some u → w.cell? (x.add j) = some u) : ∀ k r, q[k]? = some r → NdCell w (x.add (k * 6)) r.1 r.2 := by
 intro k r hk
 obtain ⟨a0, a1, a2, a3, a4, a5⟩ := rowOf_at q k r hk
 exact cell_of_adds (h _ _ a0) (h _ _ a1) (h _ _ a2) (h _ _ a3) (h _ _ a4) (h _ _ a5)
theorem nds_of_own {w : World} {S : Nat → Prop} {R T m : Nat} {v : Value} {q : List (Nd × Hd)} (h : w.ownsRow R T 6 v q.length (rowOf q)) (hS : ∀ k, R ≤ k → S k) (hq : q.length ≤ maxLen) (hr : ∀ r ∈ q, NdAt w S m r.1 r.2) : ∃ A cap, v = .slice A q.length cap ∧ NdsAt w S (m + 1) A (q.map (·.1)) := by
 rcases h.2 with ⟨rfl, h0⟩ | ⟨g, cap, cur, rfl, hR, hg, _⟩
 · obtain rfl : q = [] := List.eq_nil_of_length_eq_zero h0
   exact ⟨none, 0, rfl, NdsAt.nil _ _ _ _⟩
 · exact ⟨_, cap, rfl, by simpa using hq, q, rfl, .inr ⟨_, rfl, hS _ hR, at_cells (fun j u hj => h.cells (g := g) rfl j u hj)⟩, hr⟩
theorem nds_of_row {w : World} {S : Nat → Prop} {g T m : Nat} {arr : Array Value} {q : List (Nd × Hd)} (h : w.heap[g]? = some (.cells arr T (0, 0))) (hS : S g) (hq : q.length ≤ maxLen) (ha : ∀ (j : Nat) (u : Value), (rowOf q)[j]? = some u → arr[j]? = some u) (hr : ∀ r ∈ q, NdAt w S m r.1 r.2) : NdsAt w S (m + 1) (some ⟨g, 0, none⟩) (q.map (·.1)) :=
 ⟨by simpa using hq, q, rfl, .inr ⟨_, rfl, hS, at_cells (fun j u hj => by
  have : (⟨g, 0, none⟩ : Addr).add j = ⟨g, j, none⟩ := by unfold Addr.add; split <;> simp_all
  rw [this, cell_of_row _ _ _ _ _ _ h]; exact ha j u hj)⟩, hr⟩
theorem NdsAt.pairs {w : World} {S : Nat → Prop} {m : Nat} {A : Option Addr} {l : List Nd} (h : NdsAt w S (m + 1) A l) : ∃ q : List (Nd × Hd), q.map (·.1) = l ∧ (∀ r ∈ q, NdAt w S m r.1 r.2) ∧ (q = [] ∨ ∃ x, A = some x ∧ ∀ j u, (rowOf q)[j]? = some u → w.cell? (x.add j) = some u) := by
 obtain ⟨_, q, hq, hc, hr⟩ := h
 exact ⟨q, hq, hr, hc.imp id (fun ⟨x, hx, _, hk⟩ => ⟨x, hx, cells_at hk⟩)⟩
section
variable {H : Type} {enc : TypeId × Value → H} {w : World} {base : Nat} {spare : Nat → Bool} {held : Bool}
theorem open6 {P : Program} {t : TypeId} {fuel : Nat} {cs : List Value} {x : DataW H × List MemPlace} {f0 f1 f2 f3 f4 f5 : Field} (hs : P.underlying t = some (.struct #[f0, f1, f2, f3, f4, f5])) (hone : oneCellFields P #[f0, f1, f2, f3, f4, f5] = true) (hC : P.cellsOf t = 6)
 (h : DataW.trod enc P w base spare held fuel t cs = some x) :
 ∃ (n : Nat) (v0 v1 v2 v3 v4 v5 : Value) (y0 y1 y2 y3 y4 y5 : DataW H × List MemPlace), fuel = n + 1 ∧ cs = [v0, v1, v2, v3, v4, v5] ∧
  DataW.trod enc P w base spare held n f0.type [v0] = some y0 ∧
  DataW.trod enc P w base spare held n f1.type [v1] = some y1 ∧
  DataW.trod enc P w base spare held n f2.type [v2] = some y2 ∧
  DataW.trod enc P w base spare held n f3.type [v3] = some y3 ∧
  DataW.trod enc P w base spare held n f4.type [v4] = some y4 ∧
  DataW.trod enc P w base spare held n f5.type [v5] = some y5 := by
 obtain ⟨xs, n, rfl, -, hl, hlen, hg⟩ := DataW.trod_struct hs h
 match cs, hl.trans hC with
 | [v0, v1, v2, v3, v4, v5], _ =>
  match xs, hlen with
  | [y0, y1, y2, y3, y4, y5], _ =>
   have g0 := hg 0 f0 rfl
   have g1 := hg 1 f1 rfl
   have g2 := hg 2 f2 rfl
   have g3 := hg 3 f3 rfl
   have g4 := hg 4 f4 rfl
   have g5 := hg 5 f5 rfl
   rw [(hone_of hone 0 f0 rfl).1, (hone_of hone 0 f0 rfl).2] at g0
   rw [(hone_of hone 1 f1 rfl).1, (hone_of hone 1 f1 rfl).2] at g1
   rw [(hone_of hone 2 f2 rfl).1, (hone_of hone 2 f2 rfl).2] at g2
   rw [(hone_of hone 3 f3 rfl).1, (hone_of hone 3 f3 rfl).2] at g3
   rw [(hone_of hone 4 f4 rfl).1, (hone_of hone 4 f4 rfl).2] at g4
   rw [(hone_of hone 5 f5 rfl).1, (hone_of hone 5 f5 rfl).2] at g5
   simp at g0 g1 g2 g3 g4 g5
   exact ⟨n, _, _, _, _, _, _, _, _, _, _, _, _, rfl, rfl, g0, g1, g2, g3, g4, g5⟩
theorem node_open {fuel : Nat} {cs : List Value} {x : DataW H × List MemPlace} (h : DataW.trod enc Tryz.prog w base spare held fuel 25 cs = some x) :
 ∃ (n : Nat) (k s c : Int) (d : ByteArray) (v2 v5 : Value) (y z : DataW H × List MemPlace), fuel = n + 1 ∧ cs = [.int .i64 k, .string d, v2, .int .i64 s, .int .i64 c, v5] ∧ d.size ≤ maxLen ∧
  DataW.trod enc Tryz.prog w base spare held n 23 [v2] = some y ∧ DataW.trod enc Tryz.prog w base spare held n 23 [v5] = some z := by
 obtain ⟨n, v0, v1, v2, v3, v4, v5, y0, y1, y2, y3, y4, y5, rfl, rfl, g0, g1, g2, g3, g4, g5⟩ := open6 Tryz.underlying25 (by kernel_rfl) (by kernel_rfl) h
 obtain ⟨z0, e0, _⟩ := DataW.trod_int Tryz.underlying3 g0
 obtain ⟨z1, e1, _, hw⟩ := DataW.trod_string Tryz.underlying9 g1
 obtain ⟨z3, e3, _⟩ := DataW.trod_int Tryz.underlying3 g3
 obtain ⟨z4, e4, _⟩ := DataW.trod_int Tryz.underlying3 g4
 simp only [List.cons.injEq, and_true] at e0 e1 e3 e4
 subst e0 e1 e3 e4
 exact ⟨n, z0, z3, z4, z1, v2, v5, y2, y5, rfl, rfl, hw, g2, g5⟩
theorem cells_le {p : Addr} {n : Nat} {cs : List Value} (h : w.cells? base p n = some cs) : ∀ j, j < n → w.cell? (p.add j) = cs[j]? := by
 obtain ⟨_, _, hat⟩ := World.cells?_some h
 exact hat
theorem nds_open : ∀ (fuel : Nat) (v : Value) (x : DataW H × List MemPlace), DataW.trod enc Tryz.prog w base spare held fuel 23 [v] = some x → ∃ (A : Option Addr) (c : Nat) (l : List Nd), v = .slice A l.length c ∧ NdsAt w Any fuel A l := by
 intro fuel
 induction fuel using Nat.strongRecOn with
 | _ fuel ih =>
  intro v x h
  rcases DataW.trod_slice Tryz.underlying23 h with ⟨hv, _⟩ | ⟨a, len, cap, elems, rest, n, rfl, hv, -, -, hl, hm, hel, he, -, -⟩
  · simp at hv
    exact ⟨none, 0, [], hv, NdsAt.nil _ _ _ _⟩
  · simp at hv
    have hall : ∀ i, i < len → ∃ r : Nd × Hd, NdCell w (a.add (i * 6)) r.1 r.2 ∧ NdAt w Any n r.1 r.2 := by
     intro i hi
     have h1 := he i hi
     rw [List.getElem?_eq_getElem (by omega), Option.bind_eq_some_iff, show (Tryz.prog).cellsOf 25 = 6 by kernel_rfl] at h1
     obtain ⟨cs, hcs, ht⟩ := h1
     obtain ⟨n', k, s, c, d, v2, v5, y, z, rfl, rfl, hd, g2, g5⟩ := node_open ht
     obtain ⟨A2, c2, l2, rfl, hn2⟩ := ih n' (by omega) v2 y g2
     obtain ⟨A5, c5, l5, rfl, hn5⟩ := ih n' (by omega) v5 z g5
     have hat := cells_le hcs
     have e0 := hat 0 (by decide)
     have e1 := hat 1 (by decide)
     have e2 := hat 2 (by decide)
     have e3 := hat 3 (by decide)
     have e4 := hat 4 (by decide)
     have e5 := hat 5 (by decide)
     rw [Go.Deep.add_add] at e0 e1 e2 e3 e4 e5
     simp at e0 e1 e2 e3 e4 e5
     have hk := cell_of_adds (n := .mk k d l2 s c l5) (h := ⟨A2, c2, A5, c5⟩) e0 e1 e2 e3 e4 e5
     have hn : NdAt w Any (n' + 1) (.mk k d l2 s c l5) ⟨A2, c2, A5, c5⟩ := And.intro hd (And.intro (NdsAt.succ _ _ _ hn2) (NdsAt.succ _ _ _ hn5))
     exact ⟨(.mk k d l2 s c l5, ⟨A2, c2, A5, c5⟩), hk, hn⟩
    haveI : Inhabited (Nd × Hd) := ⟨(default, default)⟩
    obtain ⟨g, hg⟩ := choose_lt hall
    refine ⟨some a, cap, ((List.range len).map g).map (·.1), by simpa using hv, by simp; omega, (List.range len).map g, rfl, .inr ⟨a, rfl, trivial, fun k r hk => ?_⟩, fun r hr => ?_⟩
    · rw [List.getElem?_map] at hk
      by_cases hlt : k < len
      · rw [List.getElem?_range hlt] at hk
        injection hk with hk
        subst hk
        exact (hg k hlt).1
      · rw [List.getElem?_eq_none (by simpa using hlt)] at hk; cases hk
    · obtain ⟨i, hi, rfl⟩ := List.mem_map.1 hr
      have := (hg i (by simpa using hi)).2
      exact this
end
end Go.Proofs.YtehhbbdaeonebaaGreatDoor
namespace Go.Proofs.YtehhbbdaeonebaaGreatDoor
open Go.RowKit
theorem cells6 {w : World} {g : Nat} {v0 v1 v2 v3 v4 v5 : Value} {T : TypeId} (h : w.heap[g]? = some (.cells #[v0, v1, v2, v3, v4, v5] T (0, 0))) :
 w.cell? ⟨g, 0, none⟩ = some v0 ∧ w.cell? ⟨g, 1, none⟩ = some v1 ∧ w.cell? ⟨g, 2, none⟩ = some v2 ∧ w.cell? ⟨g, 3, none⟩ = some v3 ∧ w.cell? ⟨g, 4, none⟩ = some v4 ∧ w.cell? ⟨g, 5, none⟩ = some v5 := by
 refine ⟨?_, ?_, ?_, ?_, ?_, ?_⟩ <;> (rw [cell_of_row _ _ _ _ _ _ h]; rfl)
def totL : Nat → List Nd → Nat
 | 0, _ => 0
 | m + 1, l => (l.map fun n => 1 + (n.data.size + totL m n.ptrs + totL m n.items)).sum
def totN (m : Nat) (n : Nd) : Nat := n.data.size + totL m n.ptrs + totL m n.items
theorem totL_succ (m : Nat) (l : List Nd) : totL (m + 1) l = (l.map fun n => 1 + totN m n).sum := rfl
theorem sum_take_succ (l : List Nd) (f : Nd → Nat) (k : Nat) (h : k < l.length) : ((l.take (k + 1)).map f).sum = ((l.take k).map f).sum + f l[k] := by
 rw [List.take_succ_eq_append_getElem h, List.map_append, List.sum_append]; simp
theorem sum_take_le (l : List Nd) (f : Nd → Nat) (k : Nat) : ((l.take k).map f).sum ≤ (l.map f).sum := by
 conv => rhs; rw [← List.take_append_drop k l, List.map_append, List.sum_append]
 omega
theorem sum_one (l : List Nd) (f : Nd → Nat) : (l.map fun n => 1 + f n).sum = l.length + (l.map f).sum := by
 induction l with
 | nil => rfl
 | cons a t ih => simp only [List.map_cons, List.sum_cons, List.length_cons, ih]; omega
theorem totL_at {m : Nat} {l : List Nd} {k : Nat} (h : k < l.length) : 1 + totN m l[k] ≤ totL (m + 1) l := by
 have h1 := sum_take_succ l (fun n => 1 + totN m n) k h
 have h2 := sum_take_le l (fun n => 1 + totN m n) (k + 1)
 rw [totL_succ]
 omega
theorem totL_len (m : Nat) (l : List Nd) : l.length ≤ totL (m + 1) l := by
 rw [totL_succ, sum_one]; omega
def szR (left : Int) (t : Nat) : Int := if left < t then -1 else left - t
theorem szR_neg {left : Int} {t : Nat} (h : left < t) : szR left t = -1 := if_pos h
theorem szR_pos {left : Int} {t : Nat} (h : (t : Int) ≤ left) : szR left t = left - t := if_neg (by omega)
def SzS (m : Nat) : Prop := ∀ (A : Option Addr) (c : Nat) (l : List Nd) (w : World) (left : Int) (S : Nat → Prop), NdsAt w S m A l → 0 ≤ left → left ≤ 2000000 →
 Calls Tryz.prog 25 #[.slice A l.length c, .int .i64 left] w fun e w' => e = .returned (.int .i64 (szR left (totL m l))) ∧ Below w.heap.size w w'
def SzN (m : Nat) : Prop := ∀ (n : Nd) (h : Hd) (w : World) (left : Int) (S : Nat → Prop), NdAt w S m n h → 0 ≤ left → left ≤ 2000000 →
 Calls Tryz.prog 6 #[.agg #[.int .i64 n.kind, .string n.data, .slice h.A n.ptrs.length h.a, .int .i64 n.size, .int .i64 n.count, .slice h.B n.items.length h.b], .int .i64 left] w fun e w' => e = .returned (.int .i64 (szR left (totN m n))) ∧ Below w.heap.size w w'
theorem szN_of (m : Nat) (hS : SzS m) : SzN m := by
 intro n h w left S hn h0 h1
 have hdm := hn.1
 have HS := Lib.hid hS
 have HN := Lib.hid (hn.below ((Below.refl _ w).alloc (Nat.le_refl _) (.cells #[.int .i64 n.kind, .string n.data, .slice h.A n.ptrs.length h.a, .int .i64 n.size, .int .i64 n.count, .slice h.B n.items.length h.b] 25)))
 have HR := Lib.hid (heap_alloc_new w (.cells #[.int .i64 n.kind, .string n.data, .slice h.A n.ptrs.length h.a, .int .i64 n.size, .int .i64 n.count, .slice h.B n.items.length h.b] 25))
 have HB := Lib.hid ((Below.refl w.heap.size w).alloc (Nat.le_refl _) (.cells #[.int .i64 n.kind, .string n.data, .slice h.A n.ptrs.length h.a, .int .i64 n.size, .int .i64 n.count, .slice h.B n.items.length h.b] 25))
 have HT : Hid (totN m n = n.data.size + totL m n.ptrs + totL m n.items) := Lib.hid rfl
 unfold maxLen at hdm
 clear hS hn
 by_cases c1 : left - (n.data.size : Int) < 0
 · have HE := Lib.hid (szR_neg (left := left) (t := totN m n) (by rw [HT.out]; omega))
   go_enter Tryz.func6, Tryz.ntmps6
   go_wp2
   go_ret
   exact ⟨by rw [HE.out]; rfl, HB.out⟩
 have c1' : 0 ≤ left - (n.data.size : Int) := by omega
 have HP := Lib.hid (HS.out h.A h.a n.ptrs _ (left - (n.data.size : Int)) S HN.out.2.1 c1' (by omega))
 by_cases c2 : left - (n.data.size : Int) < (totL m n.ptrs : Int)
 · have HE := Lib.hid (szR_neg (left := left) (t := totN m n) (by rw [HT.out]; omega))
   rw [szR_neg c2] at HP
   go_enter Tryz.func6, Tryz.ntmps6
   go_wp2_with fail
   refine HP.out.mono ?_
   rintro e w1 ⟨rfl, hb1⟩
   have HB1 := Lib.hid (HB.out.trans (hb1.mono (by simp)))
   clear hb1
   go_wp2
   go_ret
   exact ⟨by rw [HE.out]; rfl, HB1.out⟩
 rw [szR_pos (by omega)] at HP
 have c2' : 0 ≤ left - (n.data.size : Int) - (totL m n.ptrs : Int) := by omega
 obtain ⟨left2, hl2⟩ : ∃ z, z = left - (n.data.size : Int) - (totL m n.ptrs : Int) := ⟨_, rfl⟩
 rw [← hl2] at HP c2'
 have h2 : left2 ≤ 2000000 := by omega
 have HL2 := Lib.hid hl2
 clear hl2 c2
 have HQ := Lib.hid (fun (W : World) hb => HS.out h.B h.b n.items W left2 S ((HN.out.2.2).below (w' := W) hb) c2' h2)
 by_cases c3 : left2 < (totL m n.items : Int)
 all_goals
  first
  | (have HE := Lib.hid (szR_neg (left := left) (t := totN m n) (by rw [HT.out]; have := HL2.out; omega)); rw [szR_neg c3] at HQ)
  | (have HE := Lib.hid (szR_pos (left := left) (t := totN m n) (by rw [HT.out]; have := HL2.out; omega)); rw [szR_pos (by omega)] at HQ)
  go_enter Tryz.func6, Tryz.ntmps6
  go_wp2_with fail
  refine HP.out.mono ?_
  rintro e w1 ⟨rfl, hb1⟩
  obtain ⟨a0, a1, a2, a3, a4, a5⟩ := cells6 ((hb1.block _ (by simp)).trans HR.out)
  have HB1 := Lib.hid hb1
  clear hb1
  go_wp2_with fail
  refine (HQ.out w1 HB1.out).mono ?_
  rintro e w2 ⟨rfl, hb2⟩
  have HB2 := Lib.hid ((HB.out.trans (HB1.out.mono (by simp))).trans (hb2.mono (by have := HB1.out.size; simp at this; omega)))
  clear hb2
  have c3' : True := trivial
  try (have c4 : 0 ≤ left2 - (totL m n.items : Int) := by omega)
  go_wp2
  go_ret
  first
  | exact ⟨by rw [HE.out]; rfl, HB2.out⟩
  | exact ⟨by rw [HE.out, HL2.out, HT.out]; exact ret_int (by omega), HB2.out⟩
theorem szS_zero : SzS 0 := by
 intro A c l w left S hl h0 h1
 obtain rfl := hl.zero
 have HE := Lib.hid (szR_pos (left := left) (t := totL 0 []) (by simpa [totL] using h0))
 go_enter Tryz.func25, Tryz.ntmps25
 go_wp2
 go_loop [1, 5] (fun q i => q = .int .i64 left ∧ i = .int .i64 0) (fun _ _ => 0)
 case atStart => exact ⟨rfl, rfl⟩
 case round =>
  obtain ⟨rfl, rfl⟩ := hrel
  go_wp2
  go_ret
  exact ⟨by rw [HE.out]; simp [totL], Below.refl _ _⟩
theorem szS_succ (m : Nat) (hN : SzN m) : SzS (m + 1) := by
 intro A c l w left S hl h0 h1
 have hlen := hl.len
 unfold maxLen at hlen
 have HL := Lib.hid hl
 have HN := Lib.hid hN
 have HT : Hid (totL (m + 1) l = l.length + (l.map (totN m)).sum) := Lib.hid (by rw [totL_succ, sum_one])
 clear hl hN
 by_cases c1 : left - (l.length : Int) < 0
 · have HE := Lib.hid (szR_neg (left := left) (t := totL (m + 1) l) (by rw [HT.out]; omega))
   go_enter Tryz.func25, Tryz.ntmps25
   go_wp2
   go_ret
   exact ⟨by rw [HE.out]; rfl, Below.refl _ _⟩
 have c1' : 0 ≤ left - (l.length : Int) := by omega
 go_enter Tryz.func25, Tryz.ntmps25
 go_wp2
 go_loopw [1, 5] (fun q i wr => ∃ (k : Nat) (z : Int), q = .int .i64 z ∧ i = .int .i64 k ∧ k ≤ l.length ∧ 0 ≤ z ∧ z ≤ 2000000 ∧ Hid (z = left - (l.length : Int) - (((l.take k).map (totN m)).sum : Nat)) ∧ Hid (Below w.heap.size w wr)) (fun _ i _ => l.length - (intOf i).toNat)
 case atStart => exact ⟨0, _, rfl, rfl, by omega, c1', by omega, Lib.hid (by simp), Lib.hid (Below.refl _ _)⟩
 case round =>
  obtain ⟨k, z, rfl, rfl, hk, hz0, hz1, HZ, HB⟩ := hrel
  by_cases hlt : k < l.length
  · obtain ⟨x, hd, rfl, hc, hn⟩ := (HL.out.below HB.out).at_ hlt
    have HS := Lib.hid (sum_take_succ l (totN m) k hlt)
    have HW := Lib.hid (sum_take_le l (totN m) (k + 1))
    generalize l[k] = n at hc hn HS
    obtain ⟨d0, d1, d2, d3, d4, d5⟩ := hc
    have HP := Lib.hid (HN.out n hd wr z S hn hz0 hz1)
    clear hn
    by_cases c2 : z < (totN m n : Int)
    · have HE := Lib.hid (szR_neg (left := left) (t := totL (m + 1) l) (by rw [HT.out]; have := HZ.out; have := HS.out; have := HW.out; omega))
      rw [szR_neg c2] at HP
      go_wp2_with fail
      refine HP.out.mono ?_
      rintro e w1 ⟨rfl, hb1⟩
      have HB1 := Lib.hid (HB.out.trans (hb1.mono HB.out.size))
      clear hb1
      go_wp2
      go_ret
      exact ⟨by rw [HE.out]; rfl, HB1.out⟩
    · rw [szR_pos (by omega)] at HP
      have c3 : 0 ≤ z - (totN m n : Int) := by omega
      have HZ2 : Hid (z - (totN m n : Int) = left - (l.length : Int) - (((l.take (k + 1)).map (totN m)).sum : Nat)) := Lib.hid (by rw [HS.out, HZ.out]; omega)
      go_wp2_with fail
      refine HP.out.mono ?_
      rintro e w1 ⟨rfl, hb1⟩
      have HB1 := Lib.hid (HB.out.trans (hb1.mono HB.out.size))
      clear hb1
      go_wp2
      go_roundw
      case rel => exact ⟨k + 1, _, rfl, by go_num, by omega, c3, by omega, HZ2, HB1⟩
      case measure => simp [intOf]; omega
  · obtain rfl : k = l.length := by omega
    rw [List.take_of_length_le (Nat.le_refl _)] at HZ
    have HE := Lib.hid (szR_pos (left := left) (t := totL (m + 1) l) (by rw [HT.out]; have := HZ.out; omega))
    go_wp2
    go_ret
    exact ⟨by rw [HE.out, HT.out]; exact ret_int (by have := HZ.out; omega), HB.out⟩
theorem szS_any : ∀ m, SzS m
 | 0 => szS_zero
 | m + 1 => szS_succ m (szN_of m (szS_any m))
theorem szN_any (m : Nat) : SzN m := szN_of m (szS_any m)
end Go.Proofs.YtehhbbdaeonebaaGreatDoor
