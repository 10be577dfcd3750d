/- Texts of the proof of the law FnSend, side by side: part 7. -/
import Derived.Test.YtlbfffokkhccaaaGreatDoorMSend06
set_option maxHeartbeats 8000000
set_option maxRecDepth 100000
namespace Go.Proofs.YtlbfffokkhccaaaGreatDoor
def PtrR (s : Segs) (n : Nd) (i a j c : Nat) : Prop := (j = i ∧ HasT s i (8 * a) (ptrW n ((c : Int) - a - 1))) ∨ ∃ pad : Nat, c = pad + 1 ∧ HasT s i (8 * a) (farW pad j) ∧ HasT s j (8 * pad) (ptrW n 0)
theorem grow_zero {ss : Segs} {i k : Nat} (hi : i < ss.length) (hw : WdS ss) : HasT (growB ss i k) i (8 * wn (sgS ss i)) (zer k) := fun q hq => by
 unfold byteS
 have := wds_len hw i
 rw [sgS_grow hi, if_pos rfl, List.getElem?_append_right (by omega)]
 congr 1
 omega
theorem room_rep {L size : Nat} {n : Nd} {ss s1 : Segs} {i a j c : Nat} (hk : SOk L ss) (hi : i < ss.length) (ha : a < wn (sgS ss i)) (h : roomP L size n ss i a = some (s1, j, c)) :
 Kept ss s1 i a 1 ∧ HasT s1 j (8 * c) (zer (ownN n)) ∧ (sgS ss j).length ≤ 8 * c ∧
 ∀ s2, (∀ j' p, ((j' = i ∧ 8 * a ≤ p ∧ p < 8 * a + 8) ∨ (j' = j ∧ (sgS ss j).length ≤ p ∧ p < 8 * c)) → byteS s2 j' p = byteS s1 j' p) → PtrR s2 n i a j c := by
 have hwi := wds_len hk.wds i
 unfold roomP at h
 split at h
 · split at h
   · rename_i ht
     injection h with h
     injection h with h1 h2
     injection h2 with h2 h3
     subst h1 h2 h3
     have hg := hk.grow hi ht
     have hi' : i < (growB ss i (ownN n)).length := by rw [growB_length]; exact hi
     have hr := room8 (k := 1) hg.wds (i := i) (a := a) (by rw [wn_grow hi]; omega)
     have hp : 8 * a + (ptrW n ((wn (sgS ss i) : Int) - a - 1)).length ≤ (sgS (growB ss i (ownN n)) i).length := by rw [ptrW_length]; omega
     have hpl := ptrW_length n ((wn (sgS ss i) : Int) - a - 1)
     refine ⟨fun j p hpl' hn => ?_, (grow_zero hi hk.wds).agree (fun q hq => ?_), by omega, fun s2 h2 => .inl ⟨rfl, (put_has hi' hp).agree (fun q hq => ?_)⟩⟩
     · rw [byte_put hi' hp, if_neg (fun h => hn ⟨h.1, by omega, by omega⟩)]
       exact byte_grow hi hpl'
     · rw [byte_put hi' hp, if_neg (fun h => by omega)]
     · exact h2 i _ (.inl ⟨rfl, by omega, by omega⟩)
   · cases h
 · split at h
   · cases h
   · rename_i s0 j0 ho
     obtain ⟨h1, h2, h3⟩ := other_some hk ho
     have h0 : ∀ j p, p < (sgS ss j).length → byteS s0 j p = byteS ss j p := by
      unfold otherP at ho
      split at ho
      · injection ho with ho; injection ho with e; intro j p _; rw [e]
      · split at ho
        · injection ho with ho; injection ho with e; intro j p hp; rw [← e]; exact byte_app hp
        · cases ho
     split at h
     · rename_i ht
       injection h with h
       injection h with e1 e2
       injection e2 with e2 e3
       subst e1 e2 e3
       have hg := h1.grow h3 ht
       have hi' : i < (growB s0 j0 (1 + ownN n)).length := by rw [growB_length]; exact Nat.lt_of_lt_of_le hi h2.1
       have hai : a < wn (sgS (growB s0 j0 (1 + ownN n)) i) := Nat.lt_of_lt_of_le ha ((h2.trans (grow_grew h3)).wn i)
       have hr := room8 (k := 1) hg.wds (i := i) (a := a) (by omega)
       have hfl := farW_length (wn (sgS s0 j0)) j0
       have hpl := ptrW_length n 0
       have hp : 8 * a + (farW (wn (sgS s0 j0)) j0).length ≤ (sgS (growB s0 j0 (1 + ownN n)) i).length := by omega
       have hg2 := hg.put hi' hp
       have hwj : wn (sgS (putS (growB s0 j0 (1 + ownN n)) i a (farW (wn (sgS s0 j0)) j0)) j0) = wn (sgS s0 j0) + (1 + ownN n) := by rw [← (put_alen hi' hp).wn, wn_grow h3]
       have hj2 : j0 < (putS (growB s0 j0 (1 + ownN n)) i a (farW (wn (sgS s0 j0)) j0)).length := by rw [putS_length, growB_length]; exact h3
       have hr2 := room8 (k := 1) hg2.wds (i := j0) (a := wn (sgS s0 j0)) (by omega)
       have hp2 : 8 * wn (sgS s0 j0) + (ptrW n 0).length ≤ (sgS (putS (growB s0 j0 (1 + ownN n)) i a (farW (wn (sgS s0 j0)) j0)) j0).length := by omega
       have hwj0 := wds_len h1.wds j0
       have hgj := h2.2 j0
       have hgi := h2.2 i
       refine ⟨fun j p hp' hn => ?_, ((grow_zero (k := 1 + ownN n) h3 h1.wds).cut (k := 1) (m := ownN n) (by omega)).agree (fun q hq => ?_), by omega, fun s2 h2' => .inr ⟨wn (sgS s0 j0), rfl, fun q hq => ?_, fun q hq => ?_⟩⟩
       · have hgp := h2.2 j
         rw [byte_put hj2 hp2, if_neg (fun h => by have e := h.1; subst e; omega), byte_put hi' hp, if_neg (fun h => hn ⟨h.1, by omega, by omega⟩), byte_grow h3 (by omega)]
         exact h0 j p hp'
       · rw [zer_length] at hq
         rw [byte_put hj2 hp2, if_neg (fun h => by omega), byte_put hi' hp, if_neg (fun h => by have e := h.1; subst e; omega)]
       · rw [h2' i (8 * a + q) (.inl ⟨rfl, by omega, by omega⟩), byte_put hj2 hp2, if_neg (fun h => by have e := h.1; subst e; omega)]
         exact put_has hi' hp q hq
       · rw [h2' j0 (8 * wn (sgS s0 j0) + q) (.inr ⟨rfl, by omega, by omega⟩)]
         exact put_has hj2 hp2 q hq
     · cases h
theorem wr_rep (L size : Nat) : ∀ d, WrRep L (wrP L size d) (fun n => okN d n = true) (fun s n i a => RepN s d n i a)
 | 0 => fun p ss i a s1 hn hk hi ha hz h => by
   simp only [wrP] at h
   injection h with h
   subst h
   have hk0 : p.kind = 0 := by simp only [okN, Bool.and_eq_true, decide_eq_true_eq] at hn; exact hn.2
   refine ⟨Kept.refl _ _ _ _, fun s2 h2 => ⟨hk0, hz.agree (fun q hq => ?_)⟩⟩
   rw [zer_length] at hq
   exact h2 i _ (.inl ⟨rfl, by omega, by omega⟩)
 | d + 1 => fun n ss i a s1 hn hk hi ha hz h => by
   have hf := ok_formN hn
   have hwi := wds_len hk.wds i
   simp only [wrP] at h
   by_cases hk0 : n.kind = 0
   · rw [if_pos hk0] at h
     injection h with h
     subst h
     refine ⟨Kept.refl _ _ _ _, fun s2 h2 => .inl ⟨hk0, hz.agree (fun q hq => ?_)⟩⟩
     rw [zer_length] at hq
     exact h2 i _ (.inl ⟨rfl, by omega, by omega⟩)
   · rw [if_neg hk0] at h
     by_cases hp : ownN n = 0
     · rw [if_pos hp] at h
       injection h with h
       subst h
       have hpl := ptrW_length n (if n.kind = 1 then -1 else 0)
       have hl : 8 * a + (ptrW n (if n.kind = 1 then -1 else 0)).length ≤ (sgS ss i).length := by omega
       refine ⟨put_kept hi hl (by omega), fun s2 h2 => .inr (.inl ⟨hk0, hp, (put_has hi hl).agree (fun q hq => h2 i _ (.inl ⟨rfl, by omega, by omega⟩))⟩)⟩
     · rw [if_neg hp, Option.bind_eq_some_iff] at h
       obtain ⟨⟨s2, j, c⟩, h1, h2⟩ := h
       obtain ⟨k2, g2, hj, hc⟩ := room_some hk hi ha h1
       obtain ⟨r1, r2, r3, r4⟩ := room_rep hk hi ha h1
       obtain ⟨e1, e2⟩ := fill_rep (wr_some L size d) (wr_rep L size d) hf (ok_within hn hk0) k2 hj hc r2 h2
       obtain ⟨k3, g3⟩ := fill_some (wr_some L size d) hf (ok_within hn hk0) k2 hj hc h2
       have hcl := wds_len k2.wds j
       refine ⟨fun j' p hp' hn' => ?_, fun s3 h3 => .inr (.inr ⟨hk0, hp, j, c, r4 s3 (fun j' p hjp => ?_), e2 s3 (fun j' p hjp => h3 j' p ?_)⟩)⟩
       · rw [e1 j' p (Nat.lt_of_lt_of_le hp' (g2.2 j')) (fun h => by have e := h.1; subst e; omega)]
         exact r1 j' p hp' hn'
       · have hg2j := g2.2 j'
         have hg3j := g3.2 j'
         have hs : byteS s3 j' p = byteS s1 j' p := h3 j' p (by
          rcases hjp with ⟨e, h4, h5⟩ | ⟨e, h4, h5⟩
          · exact .inl ⟨e, h4, by omega⟩
          · subst e; exact .inr ⟨h4, by omega⟩)
         rw [hs]
         exact e1 j' p (by
          rcases hjp with ⟨e, h4, h5⟩ | ⟨e, h4, h5⟩
          · subst e; omega
          · subst e; omega) (fun h => by
          rcases hjp with ⟨e, h4, h5⟩ | ⟨e, h4, h5⟩
          · have e' := h.1; subst e; subst e'; omega
          · omega)
       · have hg2j := g2.2 j'
         have hg3j := g3.2 j'
         rcases hjp with ⟨e, h4, h5⟩ | ⟨h4, h5⟩
         · subst e; exact .inr ⟨by omega, by omega⟩
         · exact .inr ⟨by omega, h5⟩
theorem build_rep {L size : Nat} {n : Nd} {ss : Segs} (hL : 1 ≤ L) (hok : okN 8 n = true) (h : buildP L size n = some ss) : RepN ss 8 n 0 0 :=
 (wr_rep L size 8 n [zer 1] 0 0 ss hok (SOKL L hL) (by decide) (by decide) (fun q hq => by
  rw [zer_length] at hq
  have : ∀ q, q < 8 * 1 → byteS [zer 1] 0 (8 * 0 + q) = (zer 1)[q]? := by decide
  exact this q hq) h).2 ss (fun _ _ _ => rfl)
def loP (n : Nd) (off : Int) : Int := if n.kind = 1 then offN off else offN off + 1
def hiP (n : Nd) : Int := if n.kind = 1 then (n.data.size / 8 : Nat) + 65536 * (n.ptrs.length : Int) else if n.size = 7 then ((ownN n : Int) - 1) * 8 + 7 else n.count * 8 + n.size
theorem ptrW_two (n : Nd) (off : Int) : ptrW n off = w8 (loP n off) (hiP n) := by
 unfold ptrW loP hiP
 split
 · rfl
 · split <;> rfl
structure PtOk (n : Nd) : Prop where
 data : n.data.size ≤ 2400
 ptrs : n.ptrs.length ≤ 300
 kind : n.kind = 1 ∨ n.kind = 2
 size : n.kind = 2 → 0 ≤ n.size ∧ n.size ≤ 7 ∧ 0 ≤ n.count ∧ n.count < 12801
 own : n.kind = 2 → n.size = 7 → 1 ≤ ownN n ∧ ownN n ≤ 300
theorem PtOk.bd {n : Nd} (h : PtOk n) (off : Int) : (0 ≤ loP n off ∧ loP n off < 4294967296) ∧ (0 ≤ hiP n ∧ hiP n < 4294967296) := by
 have h1 := h.data
 have h2 := h.ptrs
 have h3 := offN_bd off
 refine ⟨?_, ?_⟩
 · unfold loP offN at *; split <;> omega
 · unfold hiP
   rcases h.kind with k | k
   · rw [if_pos k]; omega
   · have hs := h.size k
     rw [if_neg (by omega)]
     split
     · rename_i e; have := h.own k e; omega
     · omega
theorem HasT.le {s : Segs} {j p : Nat} {t : List UInt8} (h : HasT s j p t) (ht : 1 ≤ t.length) : p + t.length ≤ (sgS s j).length := by
 have h1 := h (t.length - 1) (by omega)
 have h2 : t[t.length - 1]? = some t[t.length - 1] := List.getElem?_eq_getElem (by omega)
 rw [h2] at h1
 unfold byteS at h1
 obtain ⟨h3, -⟩ := List.getElem?_eq_some_iff.1 h1
 omega
theorem RepN.le {s : Segs} : ∀ {d : Nat} {n : Nd} {i a : Nat}, RepN s d n i a → 8 * a + 8 ≤ (sgS s i).length
 | 0, n, i, a, h => by have := h.2.le (by rw [zer_length]; omega); rw [zer_length] at this; omega
 | d + 1, n, i, a, h => by
   rcases h with ⟨_, h⟩ | ⟨_, _, h⟩ | ⟨_, _, j, c, h, _⟩
   · have := h.le (by rw [zer_length]; omega); rw [zer_length] at this; omega
   · have := h.le (by rw [ptrW_length]; omega); rw [ptrW_length] at this; omega
   · rcases h with ⟨_, h⟩ | ⟨pad, _, h, _⟩
     · have := h.le (by rw [ptrW_length]; omega); rw [ptrW_length] at this; omega
     · have := h.le (by rw [farW_length]; omega); rw [farW_length] at this; omega
theorem body_le {s : Segs} {d : Nat} {n : Nd} {j c : Nat} (h : BodyR (RepN s d) s n j c) (ho : ownB n ≠ 0) : 8 * c < (sgS s j).length := by
 obtain ⟨h1, h2⟩ := h
 unfold ownB at ho
 by_cases hd : n.data.size = 0
 · have hp : 0 < n.ptrs.length := by omega
   have := (h2 0 hp).le
   rw [hd] at this
   omega
 · have hl := data_toList n.data
   have := h1.le (by omega)
   omega
theorem fill_le {s : Segs} {d : Nat} {n : Nd} {j c : Nat} (hf : formN n = true) (h : FillR (RepN s d) s n j c) (ho : ownN n ≠ 0) : 8 * c < (sgS s j).length := by
 unfold FillR at h
 split at h
 · have := h.1.le (by rw [tagW_length]; omega)
   rw [tagW_length] at this
   omega
 · rename_i hm
   exact body_le h (by rw [← (own_plain hf hm).1]; exact ho)
open Go.RowKit
theorem bits_rest {d : ByteArray} {b : Int} (_h0 : 0 ≤ b) (hs : (d.size : Int) = (b + 7) / 8) (h8 : b % 8 = 0) : bitsB d b = true := by simp [bitsB, hs, h8]
theorem div_pow (x r : Nat) : ((x : Int) / (2 : Int) ^ r == 0) = decide (x < 2 ^ r) := by
 have h : (2 : Int) ^ r = ((2 ^ r : Nat) : Int) := by simp
 have hp : 0 < 2 ^ r := Nat.two_pow_pos r
 rw [h, Bool.eq_iff_iff]
 generalize 2 ^ r = p at *
 rw [← Int.natCast_ediv]
 simp only [beq_iff_eq, decide_eq_true_eq]
 have := Nat.div_eq_zero_iff (a := x) (b := p)
 omega
theorem l4Plain_a (k s c : Int) (d : ByteArray) (A B : Option Addr) (lp cp li ci : Nat) (w : World) (h0 : 0 ≤ s) (h5 : s ≤ 5) (c0 : 0 ≤ c) (c1 : c ≤ 12800) (_hdm : d.size ≤ maxLen) :
 Calls Tryz.prog 162 #[.agg #[.int .i64 k, .string d, .slice A lp cp, .int .i64 s, .int .i64 c, .slice B li ci]] w fun e w' => e = .returned (.bool (bitsB d (c * bz s))) ∧ Below w.heap.size w w' := by
 have HBY := Lib.hid (fun W => l4Bytes_a s c W h0 (by omega) c0 c1)
 have HBZ : Hid (byteZ s c = (c * bz s + 7) / 8) := Lib.hid (by unfold byteZ; rw [Int.mul_comm])
 have HR := Lib.hid (heap_alloc_new w (.cells #[.int .i64 k, .string d, .slice A lp cp, .int .i64 s, .int .i64 c, .slice B li ci] nodeT))
 have HBA := Lib.hid ((Below.refl w.heap.size w).alloc (Nat.le_refl _) (.cells #[.int .i64 k, .string d, .slice A lp cp, .int .i64 s, .int .i64 c, .slice B li ci] nodeT))
 have hby : 0 ≤ byteZ s c ∧ byteZ s c ≤ 102401 := by
  have hb := bz_le s
  have h1 := Int.mul_nonneg hb.1 c0
  have h2 := Int.mul_le_mul hb.2 c1 c0 (by omega)
  unfold byteZ; omega
 obtain ⟨by_, hbyd⟩ : ∃ z, z = byteZ s c := ⟨_, rfl⟩
 rw [← hbyd] at HBY HBZ hby
 clear hbyd
 by_cases hne : (d.size : Int) = by_
 · have hneb : ((d.size : Int) != by_) = false := by rw [hne]; simp
   have HSZ : Hid ((d.size : Int) = (c * bz s + 7) / 8) := Lib.hid (by rw [hne, HBZ.out])
   have HNE := Lib.hid hne
   clear hne
   go_enter Tryz.func162, Tryz.ntmps162
   go_wp2_with fail
   generalize w.alloc (.cells #[.int .i64 k, .string d, .slice A lp cp, .int .i64 s, .int .i64 c, .slice B li ci] nodeT) = W at *
   obtain ⟨e0, e1, e2, e3, e4, e5⟩ := cells6 HR.out
   have q1 := cell_regrown e1
   have q3 := cell_regrown e3
   have q4 := cell_regrown e4
   refine wp_region_quiet_below (by kernel_rfl) (by kernel_rfl) ?_
   repeat (first | go_big_quiet_step ((go_at_call 185; with_reducible exact Calls.regrown_of (HBY.out _))) | quiet_step ((go_at_call 185; with_reducible exact Calls.regrown_of (HBY.out _))))
   refine wpQuiet_nil ?_
   intro _ hw'
   obtain ⟨⟨dq, osq⟩, hw''⟩ := hw'
   subst hw''
   have HB2 := Lib.hid (HBA.out.trans ((below_regrown W dq osq).mono HBA.out.size))
   have HR2 := Lib.hid (((below_regrown W dq osq).block _ (row_lt HR.out)).trans HR.out)
   clear q1 q3 q4 e0 e1 e2 e3 e4 e5
   generalize «Sort».grow (redrawn W dq) osq = W2 at *
   obtain ⟨e0, e1, e2, e3, e4, e5⟩ := cells6 HR2.out
   clear HR HBA HBY
   by_cases hs1 : s = 1
   · subst hs1
     have hc1 : c * bz 1 = c := by rw [show bz 1 = 1 from rfl, Int.mul_one]
     rw [hc1] at HSZ
     have HC1 := Lib.hid hc1
     clear hc1
     by_cases h8 : c % 8 = 0
     · have HX := Lib.hid (bits_rest c0 HSZ.out h8)
       go_wp2
       go_ret
       exact ⟨by rw [HC1.out, HX.out]; rfl, HB2.out⟩
     · obtain ⟨j, hj⟩ : ∃ j, d.size = j + 1 := ⟨d.size - 1, by have := HSZ.out; omega⟩
       have hlt : j < d.size := by omega
       have hln : (d.size : Int) - 1 = (j : Int) := by omega
       have hjm : j ≤ 10000000 := by have := HSZ.out; omega
       have HLN := Lib.hid (lastN_eq hj hlt)
       have hx : (d[j]).toNat < 256 := (d[j]).toNat_lt
       have h8b : (c % 8 == 0) = false := by simpa using h8
       have HX : Hid (bitsB d c = decide ((d[j]).toNat < 2 ^ (c % 8).toNat)) := Lib.hid (by
        unfold bitsB
        rw [decide_eq_true HSZ.out, decide_eq_false h8, HLN.out]
        rfl)
       have hw : wrap64 ((d[j]).toNat : Int) = ((d[j]).toNat : Int) := by
        simp only [wrap64]
        omega
       have HW := Lib.hid hw
       have H8 := Lib.hid h8
       clear hj h8 hw
       go_wp2
       go_ret
       refine ⟨?_, HB2.out⟩
       rw [HC1.out, HX.out]
       exact ret_bool (div_pow _ _)
   · have hs1b : (s != 1) = true := by simpa using hs1
     have HX : Hid (bitsB d (c * bz s) = true) := Lib.hid (bits_rest (Int.mul_nonneg c0 (bz_le s).1) HSZ.out (by
      have : s = 0 ∨ s = 2 ∨ s = 3 ∨ s = 4 ∨ s = 5 := by omega
      rcases this with rfl | rfl | rfl | rfl | rfl
      · rw [show bz 0 = 0 from rfl]; omega
      · rw [show bz 2 = 8 from rfl]; omega
      · rw [show bz 3 = 16 from rfl]; omega
      · rw [show bz 4 = 32 from rfl]; omega
      · rw [show bz 5 = 64 from rfl]; omega))
     go_wp2
     go_ret
     exact ⟨by rw [HX.out]; rfl, HB2.out⟩
 · have hneb : ((d.size : Int) != by_) = true := by simpa using hne
   have HX : Hid (bitsB d (c * bz s) = false) := Lib.hid (by unfold bitsB; rw [← HBZ.out, decide_eq_false hne]; rfl)
   clear hne
   go_enter Tryz.func162, Tryz.ntmps162
   go_wp2_with fail
   generalize w.alloc (.cells #[.int .i64 k, .string d, .slice A lp cp, .int .i64 s, .int .i64 c, .slice B li ci] nodeT) = W at *
   obtain ⟨e0, e1, e2, e3, e4, e5⟩ := cells6 HR.out
   have q1 := cell_regrown e1
   have q3 := cell_regrown e3
   have q4 := cell_regrown e4
   refine wp_region_quiet_below (by kernel_rfl) (by kernel_rfl) ?_
   repeat (first | go_big_quiet_step ((go_at_call 185; with_reducible exact Calls.regrown_of (HBY.out _))) | quiet_step ((go_at_call 185; with_reducible exact Calls.regrown_of (HBY.out _))))
   refine wpQuiet_nil ?_
   intro _ hw'
   obtain ⟨⟨dq, osq⟩, hw''⟩ := hw'
   subst hw''
   have HB2 := Lib.hid (HBA.out.trans ((below_regrown W dq osq).mono HBA.out.size))
   clear q1 q3 q4 e0 e1 e2 e3 e4 e5
   generalize «Sort».grow (redrawn W dq) osq = W2 at *
   go_wp2
   go_ret
   exact ⟨by rw [HX.out]; rfl, HB2.out⟩
def CutP (b : Nat) (w : World) (e : Ending) (w' : World) : Prop := ∃ u : ByteArray, u.size ≤ b ∧ e = .returned (.string u) ∧ Below w.heap.size w w'
theorem l4Cut_a (d : ByteArray) (s c : Int) (w : World) (h0 : 0 ≤ s) (h5 : s ≤ 5) (c0 : 0 ≤ c) (c1 : c ≤ 11) (hd : 96 ≤ d.size) (hd2 : d.size ≤ 1000) :
 Calls Tryz.prog 155 #[.string d, .int .i64 s, .int .i64 c] w (CutP 1001 w) := by
 have hb := bz_le s
 have hby : 0 ≤ byteZ s c ∧ byteZ s c ≤ 88 := by
  have h1 := Int.mul_nonneg hb.1 c0
  have h2 := Int.mul_le_mul hb.2 c1 c0 (by omega)
  unfold byteZ; omega
 obtain ⟨nn, hnn⟩ := Int.eq_ofNat_of_zero_le hby.1
 have HBY := Lib.hid (l4Bytes_a s c w h0 (by omega) c0 (by omega))
 rw [hnn] at HBY
 have hn88 : nn ≤ 88 := by omega
 obtain ⟨o, hext⟩ : ∃ o, d.extract 0 nn = o := ⟨_, rfl⟩
 have hos : o.size = nn := by rw [← hext, ByteArray.size_extract]; omega
 have hle : (nn : Int) ≤ (d.size : Int) := by omega
 have HOS := Lib.hid hos
 by_cases hs1 : s = 1
 · subst hs1
   by_cases h8 : c % 8 = 0
   · clear hos
     go_enter Tryz.func155, Tryz.ntmps155
     go_wp2_with fail
     refine HBY.out.mono ?_
     rintro e w1 ⟨rfl, hb1⟩
     have HB1 := Lib.hid hb1
     clear hb1
     go_wp2
     go_ret
     exact ⟨o, by have := HOS.out; omega, rfl, HB1.out⟩
   · have hn1 : byteZ 1 c = (c + 7) / 8 := by unfold byteZ; rw [show bz 1 = 1 from rfl, Int.one_mul]
     obtain ⟨j, hj⟩ : ∃ j, nn = j + 1 := ⟨nn - 1, by omega⟩
     have hlt : j < o.size := by omega
     have hle2 : (j : Int) ≤ (o.size : Int) := by omega
     have hln : (nn : Int) - 1 = (j : Int) := by omega
     have hjm : j ≤ 100 := by omega
     have hx : (o[j]).toNat < 256 := (o[j]).toNat_lt
     have HJ := Lib.hid hj
     have hk : c % 8 = 1 ∨ c % 8 = 2 ∨ c % 8 = 3 ∨ c % 8 = 4 ∨ c % 8 = 5 ∨ c % 8 = 6 ∨ c % 8 = 7 := by omega
     clear hos hj h8 hn1 hnn hby hb hd hd2 h0 h5
     rcases hk with hk | hk | hk | hk | hk | hk | hk
     · have hand := and_u8_1 (o[j]).toNat hx
       have hq : (o[j]).toNat % 2 < 256 := by omega
       generalize (o[j]).toNat % 2 = q at hand hq
       go_enter Tryz.func155, Tryz.ntmps155
       go_wp2_with fail
       refine HBY.out.mono ?_
       rintro e w1 ⟨rfl, hb1⟩
       have hcv : (convert 22 9 (.slice (some ⟨w1.heap.size, 0, none⟩) 1 1)).run Tryz.prog (w1.alloc (.cells #[.int .u8 (q : Int)] 5)).drew = .ok (.string ⟨#[UInt8.ofNat q]⟩) (w1.alloc (.cells #[.int .u8 (q : Int)] 5)).drew := conv1n q hq w1.drew
       have HB1 := Lib.hid hb1
       clear hb1
       go_wp2
       go_region
       go_wp2
       go_ret
       exact ⟨o.extract 0 j ++ ⟨#[UInt8.ofNat q]⟩, by have := HOS.out; rw [getD_size, ByteArray.size_extract]; show _ + 1 ≤ _; have := HJ.out; omega, rfl, (HB1.out.alloc HB1.out.size _).drew⟩
     · have hand := and_u8_2 (o[j]).toNat hx
       have hq : (o[j]).toNat % 4 < 256 := by omega
       generalize (o[j]).toNat % 4 = q at hand hq
       go_enter Tryz.func155, Tryz.ntmps155
       go_wp2_with fail
       refine HBY.out.mono ?_
       rintro e w1 ⟨rfl, hb1⟩
       have hcv : (convert 22 9 (.slice (some ⟨w1.heap.size, 0, none⟩) 1 1)).run Tryz.prog (w1.alloc (.cells #[.int .u8 (q : Int)] 5)).drew = .ok (.string ⟨#[UInt8.ofNat q]⟩) (w1.alloc (.cells #[.int .u8 (q : Int)] 5)).drew := conv1n q hq w1.drew
       have HB1 := Lib.hid hb1
       clear hb1
       go_wp2
       go_region
       go_wp2
       go_ret
       exact ⟨o.extract 0 j ++ ⟨#[UInt8.ofNat q]⟩, by have := HOS.out; rw [getD_size, ByteArray.size_extract]; show _ + 1 ≤ _; have := HJ.out; omega, rfl, (HB1.out.alloc HB1.out.size _).drew⟩
     · have hand := and_u8_3 (o[j]).toNat hx
       have hq : (o[j]).toNat % 8 < 256 := by omega
       generalize (o[j]).toNat % 8 = q at hand hq
       go_enter Tryz.func155, Tryz.ntmps155
       go_wp2_with fail
       refine HBY.out.mono ?_
       rintro e w1 ⟨rfl, hb1⟩
       have hcv : (convert 22 9 (.slice (some ⟨w1.heap.size, 0, none⟩) 1 1)).run Tryz.prog (w1.alloc (.cells #[.int .u8 (q : Int)] 5)).drew = .ok (.string ⟨#[UInt8.ofNat q]⟩) (w1.alloc (.cells #[.int .u8 (q : Int)] 5)).drew := conv1n q hq w1.drew
       have HB1 := Lib.hid hb1
       clear hb1
       go_wp2
       go_region
       go_wp2
       go_ret
       exact ⟨o.extract 0 j ++ ⟨#[UInt8.ofNat q]⟩, by have := HOS.out; rw [getD_size, ByteArray.size_extract]; show _ + 1 ≤ _; have := HJ.out; omega, rfl, (HB1.out.alloc HB1.out.size _).drew⟩
     · have hand := and_u8_4 (o[j]).toNat hx
       have hq : (o[j]).toNat % 16 < 256 := by omega
       generalize (o[j]).toNat % 16 = q at hand hq
       go_enter Tryz.func155, Tryz.ntmps155
       go_wp2_with fail
       refine HBY.out.mono ?_
       rintro e w1 ⟨rfl, hb1⟩
       have hcv : (convert 22 9 (.slice (some ⟨w1.heap.size, 0, none⟩) 1 1)).run Tryz.prog (w1.alloc (.cells #[.int .u8 (q : Int)] 5)).drew = .ok (.string ⟨#[UInt8.ofNat q]⟩) (w1.alloc (.cells #[.int .u8 (q : Int)] 5)).drew := conv1n q hq w1.drew
       have HB1 := Lib.hid hb1
       clear hb1
       go_wp2
       go_region
       go_wp2
       go_ret
       exact ⟨o.extract 0 j ++ ⟨#[UInt8.ofNat q]⟩, by have := HOS.out; rw [getD_size, ByteArray.size_extract]; show _ + 1 ≤ _; have := HJ.out; omega, rfl, (HB1.out.alloc HB1.out.size _).drew⟩
     · have hand := and_u8_5 (o[j]).toNat hx
       have hq : (o[j]).toNat % 32 < 256 := by omega
       generalize (o[j]).toNat % 32 = q at hand hq
       go_enter Tryz.func155, Tryz.ntmps155
       go_wp2_with fail
       refine HBY.out.mono ?_
       rintro e w1 ⟨rfl, hb1⟩
       have hcv : (convert 22 9 (.slice (some ⟨w1.heap.size, 0, none⟩) 1 1)).run Tryz.prog (w1.alloc (.cells #[.int .u8 (q : Int)] 5)).drew = .ok (.string ⟨#[UInt8.ofNat q]⟩) (w1.alloc (.cells #[.int .u8 (q : Int)] 5)).drew := conv1n q hq w1.drew
       have HB1 := Lib.hid hb1
       clear hb1
       go_wp2
       go_region
       go_wp2
       go_ret
       exact ⟨o.extract 0 j ++ ⟨#[UInt8.ofNat q]⟩, by have := HOS.out; rw [getD_size, ByteArray.size_extract]; show _ + 1 ≤ _; have := HJ.out; omega, rfl, (HB1.out.alloc HB1.out.size _).drew⟩
     · have hand := and_u8_6 (o[j]).toNat hx
       have hq : (o[j]).toNat % 64 < 256 := by omega
       generalize (o[j]).toNat % 64 = q at hand hq
       go_enter Tryz.func155, Tryz.ntmps155
       go_wp2_with fail
       refine HBY.out.mono ?_
       rintro e w1 ⟨rfl, hb1⟩
       have hcv : (convert 22 9 (.slice (some ⟨w1.heap.size, 0, none⟩) 1 1)).run Tryz.prog (w1.alloc (.cells #[.int .u8 (q : Int)] 5)).drew = .ok (.string ⟨#[UInt8.ofNat q]⟩) (w1.alloc (.cells #[.int .u8 (q : Int)] 5)).drew := conv1n q hq w1.drew
       have HB1 := Lib.hid hb1
       clear hb1
       go_wp2
       go_region
       go_wp2
       go_ret
       exact ⟨o.extract 0 j ++ ⟨#[UInt8.ofNat q]⟩, by have := HOS.out; rw [getD_size, ByteArray.size_extract]; show _ + 1 ≤ _; have := HJ.out; omega, rfl, (HB1.out.alloc HB1.out.size _).drew⟩
     · have hand := and_u8_7 (o[j]).toNat hx
       have hq : (o[j]).toNat % 128 < 256 := by omega
       generalize (o[j]).toNat % 128 = q at hand hq
       go_enter Tryz.func155, Tryz.ntmps155
       go_wp2_with fail
       refine HBY.out.mono ?_
       rintro e w1 ⟨rfl, hb1⟩
       have hcv : (convert 22 9 (.slice (some ⟨w1.heap.size, 0, none⟩) 1 1)).run Tryz.prog (w1.alloc (.cells #[.int .u8 (q : Int)] 5)).drew = .ok (.string ⟨#[UInt8.ofNat q]⟩) (w1.alloc (.cells #[.int .u8 (q : Int)] 5)).drew := conv1n q hq w1.drew
       have HB1 := Lib.hid hb1
       clear hb1
       go_wp2
       go_region
       go_wp2
       go_ret
       exact ⟨o.extract 0 j ++ ⟨#[UInt8.ofNat q]⟩, by have := HOS.out; rw [getD_size, ByteArray.size_extract]; show _ + 1 ≤ _; have := HJ.out; omega, rfl, (HB1.out.alloc HB1.out.size _).drew⟩
 · have hs1b : (s == 1) = false := by simpa using hs1
   clear hos hs1
   go_enter Tryz.func155, Tryz.ntmps155
   go_wp2_with fail
   refine HBY.out.mono ?_
   rintro e w1 ⟨rfl, hb1⟩
   have HB1 := Lib.hid hb1
   clear hb1
   go_wp2
   go_ret
   exact ⟨o, by have := HOS.out; omega, rfl, HB1.out⟩
def Clean (w : World) (k : Nat) : Prop := ∃ cs T, w.heap[k]? = some (.cells cs T (0, 0))
def FromC (w : World) (B : Nat) : Nat → Prop := fun k => B ≤ k ∧ Clean w k
theorem clean_of {w w' : World} {k : Nat} (h : Clean w k) (he : w'.heap[k]? = w.heap[k]?) : Clean w' k := by
 obtain ⟨c, t, hk⟩ := h
 exact ⟨c, t, he.trans hk⟩
theorem clean_low {w w' : World} {k : Nat} (h : Clean w k) (hb : Below w.heap.size w w') : Clean w' k := by
 obtain ⟨c, t, hk⟩ := h
 exact ⟨c, t, (hb.block k (heap_lt hk)).trans hk⟩
theorem clean_set {w : World} {k : Nat} (h : Clean w k) (p : Addr) (v : Value) : Clean (w.setCell p v) k := by
 obtain ⟨c, t, h4⟩ := h
 by_cases hk : k = p.block
 · subst hk
   obtain ⟨b, o, s⟩ := p
   cases s with
   | none => exact ⟨c.setIfInBounds o v, t, by simp [World.setCell, Array.getElem?_modify, h4]⟩
   | some s => exact ⟨c, t, by simp [World.setCell, Array.getElem?_modify, h4]⟩
 · exact ⟨c, t, (Below.heap_setCell w p v k hk).trans h4⟩
theorem clean_size {w : World} {k : Nat} (h : Clean w k) : k < w.heap.size := by
 obtain ⟨c, t, hk⟩ := h
 exact heap_lt hk
theorem NdAt.belowC {w w' : World} {B m : Nat} {n : Nd} {h : Hd} (hn : NdAt w (FromC w B) m n h) (hb : Below w.heap.size w w') : NdAt w' (FromC w' B) m n h := (hn.below hb).weak (fun _ hk => ⟨hk.1, clean_low hk.2 hb⟩)
theorem NdsAt.fromC {w : World} {B B' m : Nat} {A : Option Addr} {l : List Nd} (h : NdsAt w (FromC w B) m A l) (hB : B' ≤ B) : NdsAt w (FromC w B') m A l := h.weak (fun _ hk => ⟨Nat.le_trans hB hk.1, hk.2⟩)
theorem NdAt.fromC {w : World} {B B' m : Nat} {n : Nd} {h : Hd} (hn : NdAt w (FromC w B) m n h) (hB : B' ≤ B) : NdAt w (FromC w B') m n h := hn.weak (fun _ hk => ⟨Nat.le_trans hB hk.1, hk.2⟩)
theorem NdsAt.uponC {w w' : World} {B m : Nat} {A : Option Addr} {l : List Nd} (h : NdsAt w (FromC w B) m A l) (hu : Upon B w w') : NdsAt w' (FromC w' B) m A l :=
 (NdsAt.map (fun _ h => h) (fun _p _ _ hs hc => hc.block (hu.block _ hs.1 hc.lt)) _ _ _ h).weak (fun k hk => ⟨hk.1, clean_of hk.2 (hu.block k hk.1 (clean_size hk.2))⟩)
theorem NdAt.uponC {w w' : World} {B m : Nat} {n : Nd} {h : Hd} (hn : NdAt w (FromC w B) m n h) (hu : Upon B w w') : NdAt w' (FromC w' B) m n h := ⟨hn.1, hn.2.1.uponC hu, hn.2.2.uponC hu⟩
theorem NdAt.plain {w : World} {B m : Nat} {n : Nd} {h : Hd} (hn : NdAt w (FromC w B) m n h) : NdAt w (From B) m n h := hn.weak (fun _ hk => hk.1)
theorem nds_of_ownC {w : World} {R T m : Nat} {v : Value} {q : List (Nd × Hd)} (h : w.ownsRow R T 6 v q.length (rowOf q)) (hq : q.length ≤ maxLen) (hr : ∀ r ∈ q, NdAt w (FromC w R) m r.1 r.2) : ∃ A cap, v = .slice A q.length cap ∧ NdsAt w (FromC w R) (m + 1) A (q.map (·.1)) := by
 rcases h.2 with ⟨rfl, h0⟩ | ⟨g, cap, cur, rfl, hR, hg, _⟩
 · obtain rfl : q = [] := List.eq_nil_of_length_eq_zero h0
   exact ⟨none, 0, rfl, NdsAt.nil _ _ _ _⟩
 · exact ⟨_, cap, rfl, by simpa using hq, q, rfl, .inr ⟨_, rfl, ⟨hR, _, _, hg⟩, at_cells (fun j u hj => h.cells (g := g) rfl j u hj)⟩, hr⟩
def Code (w : World) (B : Nat) (a : Option Addr) (len : Nat) : Prop :=
 len ≤ maxLen ∧ (len = 0 ∨ ∃ x : Addr, a = some x ∧ x.block < B ∧ ∀ i, i < len → ∃ b : UInt8, w.cell? (x.add i) = some (.int .u8 (b.toNat : Int)))
theorem Code.keeps {w w' : World} {B B' R : Nat} {a : Option Addr} {len : Nat} (h : Code w B a len) (hk : Keeps B' R w w') (h1 : B ≤ B') (h2 : B ≤ R) : Code w' B a len := by
 refine ⟨h.1, h.2.imp id ?_⟩
 rintro ⟨x, rfl, hx, hc⟩
 refine ⟨x, rfl, hx, fun i hi => ?_⟩
 obtain ⟨b, hb⟩ := hc i hi
 exact ⟨b, (keeps_cell hk (x.add i) (by rw [addr_block]; omega) (by rw [addr_block]; omega)).trans hb⟩
theorem Code.mono {w : World} {B B' : Nat} {a : Option Addr} {len : Nat} (h : Code w B a len) (h1 : B ≤ B') : Code w B' a len :=
 ⟨h.1, h.2.imp id fun ⟨x, e, hx, hc⟩ => ⟨x, e, Nat.lt_of_lt_of_le hx h1, hc⟩⟩
def Rd (w : World) (R n : Nat) : Prop :=
 ∃ (a : Option Addr) (len cap p : Nat), p ≤ n ∧ w.heap[R]? = some (.cells #[.slice a len cap, .int .i64 (p : Int)] 100 (0, 0)) ∧ Code w R a len
theorem Rd.lt {w : World} {R n : Nat} (h : Rd w R n) : R < w.heap.size := by obtain ⟨_, _, _, _, _, hb, _⟩ := h; exact row_lt hb
theorem Rd.mono {w : World} {R n m : Nat} (h : Rd w R n) (h1 : n ≤ m) : Rd w R m := by obtain ⟨a, l, c, p, hp, r⟩ := h; exact ⟨a, l, c, p, by omega, r⟩
theorem Rd.below {w w' : World} {R n : Nat} (h : Rd w R n) (hb : Below w.heap.size w w') : Rd w' R n := by
 have hlt := h.lt
 obtain ⟨a, l, c, p, hp, hr, hc⟩ := h
 exact ⟨a, l, c, p, hp, (hb.block R hlt).trans hr, hc.keeps (R := w.heap.size) (Keeps.of_below hb) (by omega) (by omega)⟩
def Picked (w : World) (R n : Nat) (w' : World) : Prop := Rd w' R n ∧ Keeps w.heap.size R w w'
def Pick (k : Int) (R n : Nat) (w : World) (e : Ending) (w' : World) : Prop := ∃ v : Int, (0 ≤ v ∧ (v < k ∨ v = 0)) ∧ e = .returned (.int .i64 v) ∧ Picked w R (n + 1) w'
theorem xor_i64 (a b : Nat) (ha : a < 9223372036854775808) (hb : b < 9223372036854775808) : bits .xor .i64 (a : Int) (b : Int) = ((a ^^^ b : Nat) : Int) := by
 have hx : a ^^^ b < 2 ^ 63 := Nat.xor_lt_two_pow (by omega) (by omega)
 show IntKind.i64.wrap ((BitVec.ofInt 64 (a : Int) ^^^ BitVec.ofInt 64 (b : Int)).toNat : Int) = _
 rw [BitVec.toNat_xor, ofInt_i64' a ha, ofInt_i64' b hb, IntKind.wrap_i64]
 omega
theorem xor_bd (a b : Int) (ha : 0 ≤ a) (hb : 0 ≤ b) (ha1 : a < 9223372036854775808) (hb1 : b < 9223372036854775808) : 0 ≤ bits .xor .i64 a b := by
 obtain ⟨a, rfl⟩ := Int.eq_ofNat_of_zero_le ha
 obtain ⟨b, rfl⟩ := Int.eq_ofNat_of_zero_le hb
 rw [xor_i64 a b (by omega) (by omega)]
 omega
theorem picked_set {w : World} {R n p len cap : Nat} {a : Option Addr} (hp : p ≤ n) (hb : w.heap[R]? = some (.cells #[.slice a len cap, .int .i64 (p : Int)] 100 (0, 0))) (hc : Code w R a len) :
 Picked w R (n + 1) (w.setCell ⟨R, 1, none⟩ (.int .i64 ((p : Int) + 1))) := by
 have hk := set_keeps w.heap.size R w 1 (.int .i64 ((p : Int) + 1))
 refine ⟨⟨a, len, cap, p + 1, by omega, ?_, hc.keeps hk (Nat.le_of_lt (row_lt hb)) (Nat.le_refl _)⟩, hk⟩
 exact pair_set1 hb
theorem Picked.drewN {w w' : World} {R n : Nat} (h : Picked w R n w') (k : Nat) : Picked w R n (w'.drewN k) := by
 obtain ⟨⟨a, l, c, p, hp, hr, hc⟩, hk⟩ := h
 exact ⟨⟨a, l, c, p, hp, hr, hc⟩, hk.drewN k⟩
theorem pick_any (R n : Nat) (k : Int) (w : World) (h : Rd w R n) (hn : n ≤ 1000000) :
 Calls Tryz.prog 66 #[.pointer (some ⟨R, 0, none⟩), .int .i64 k] w (Pick k R n w) := by
 obtain ⟨a, len, cap, p, hp, hb, hc⟩ := h
 have hfin := picked_set hp hb hc
 have HF := Lib.hid hfin
 obtain ⟨hc0, hc1⟩ := cell_pair hb
 have hfz := row_free hb 1
 have hlen := hc.1
 unfold maxLen at hlen
 clear hfin
 by_cases h1 : k < 1
 · go_enter Tryz.func66, Tryz.ntmps66
   go_wp2
   go_ret
   exact ⟨0, ⟨by omega, .inr rfl⟩, rfl, HF.out⟩
 have h1' : 1 ≤ k := by omega
 by_cases h2 : len = 0
 · subst h2
   go_enter Tryz.func66, Tryz.ntmps66
   go_wp2
   go_ret
   exact ⟨0, ⟨by omega, .inr rfl⟩, rfl, HF.out⟩
 have hl0 : ((len : Int) == 0) = false := by simp; omega
 obtain ⟨x, rfl, hx, hcl⟩ := hc.2.resolve_left h2
 have hcl2 : ∀ i, i < len → ∃ b : UInt8, (w.setCell ⟨R, 1, none⟩ (.int .i64 ((p : Int) + 1))).cell? (x.add i) = some (.int .u8 (b.toNat : Int)) := fun i hi => by
  obtain ⟨b, hb'⟩ := hcl i hi
  refine ⟨b, (keeps_cell (set_keeps w.heap.size R w 1 _) (x.add i) ?_ ?_).trans hb'⟩
  · have := row_lt hb; rw [addr_block]; omega
  · rw [addr_block]; omega
 clear hcl
 by_cases h3 : p < len
 · obtain ⟨b, hbp⟩ := hcl2 p h3
   have hb256 := b.toNat_lt
   have hm : (b.toNat : Int) % k < k := Int.emod_lt_of_pos _ (by omega)
   have hm0 : 0 ≤ (b.toNat : Int) % k := Int.emod_nonneg _ (by omega)
   clear hcl2
   have HH := Lib.hid hb
   have HC := Lib.hid hc
   clear hb hc
   go_enter Tryz.func66, Tryz.ntmps66
   go_wp2
   go_ret
   exact ⟨_, ⟨hm0, .inl hm⟩, rfl, HF.out⟩
 · have hpl : 0 < len := by omega
   obtain ⟨b1, hb1⟩ := hcl2 (p % len) (Nat.mod_lt _ hpl)
   obtain ⟨b2, hb2⟩ := hcl2 ((p * 7 + 3) % len) (Nat.mod_lt _ hpl)
   have hb1l := b1.toNat_lt
   have hb2l := b2.toNat_lt
   have i1 : ((p : Int) % (len : Int)).toNat = p % len := by rw [← Int.natCast_emod]; rfl
   have i2 : (((p : Int) * 7 + 3) % (len : Int)).toNat = (p * 7 + 3) % len := by rw [show (p : Int) * 7 + 3 = ((p * 7 + 3 : Nat) : Int) by omega, ← Int.natCast_emod]; rfl
   have j1 : (p : Int) % (len : Int) < len := Int.emod_lt_of_pos _ (by omega)
   have j2 : ((p : Int) * 7 + 3) % (len : Int) < len := Int.emod_lt_of_pos _ (by omega)
   have j3 : 0 ≤ (p : Int) % (len : Int) := Int.emod_nonneg _ (by omega)
   have j4 : 0 ≤ ((p : Int) * 7 + 3) % (len : Int) := Int.emod_nonneg _ (by omega)
   have hq : 0 ≤ (p : Int) / (len : Int) := Int.ediv_nonneg (by omega) (by omega)
   have hq1 : (p : Int) / (len : Int) ≤ 1000000 := Int.le_trans (Int.ediv_le_self _ (by omega)) (by omega)
   clear hcl2
   have HH := Lib.hid hb
   have HC := Lib.hid hc
   clear hb hc
   go_enter Tryz.func66, Tryz.ntmps66
   go_wp2
   go_quiet (fail)
   have hv0 : 0 ≤ (b1.toNat : Int) * 131 + (b2.toNat : Int) * 1117 + (p : Int) * 29 + (p : Int) / (len : Int) * 53 := by omega
   have hv1 : (b1.toNat : Int) * 131 + (b2.toNat : Int) * 1117 + (p : Int) * 29 + (p : Int) / (len : Int) * 53 < 1000000000000 := by omega
   clear i1 i2 j1 j2 j3 j4
   generalize (b1.toNat : Int) * 131 + (b2.toNat : Int) * 1117 + (p : Int) * 29 + (p : Int) / (len : Int) * 53 = v at hv0 hv1 ⊢
   have hx0 : 0 ≤ bits .xor .i64 v (v / 64) := xor_bd v (v / 64) hv0 (by omega) (by omega) (by omega)
   have hm : bits .xor .i64 v (v / 64) % k < k := Int.emod_lt_of_pos _ (by omega)
   have hm0 : 0 ≤ bits .xor .i64 v (v / 64) % k := Int.emod_nonneg _ (by omega)
   go_wp2
   go_ret
   exact ⟨_, ⟨hm0, .inl hm⟩, rfl, HF.out.drewN _⟩
end Go.Proofs.YtlbfffokkhccaaaGreatDoor
