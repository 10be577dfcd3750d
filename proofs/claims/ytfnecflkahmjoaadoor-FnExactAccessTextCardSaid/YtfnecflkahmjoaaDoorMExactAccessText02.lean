/- Texts of the proof of the law FnExactAccessText, side by side: part 2. -/
import Derived.Test.YtfnecflkahmjoaaDoorMExactAccessText01
set_option maxHeartbeats 8000000
set_option maxRecDepth 100000
namespace Go.Proofs.YtfnecflkahmjoaaDoor
open Go.RowKit Go.Deep
theorem l12Text_1t (nm : ByteArray) (hs : nm.size ≤ 10) (at_ sz tu tg pl : Int) (h0 : 0 ≤ at_ ∧ at_ ≤ 12799) (hz : 0 ≤ sz ∧ sz ≤ 8) (hu : -1000000000000000000 ≤ tu ∧ tu ≤ 1000000000000000000) (ht : 0 ≤ tg ∧ tg ≤ 1598) (hp : 0 ≤ pl ∧ pl ≤ 65535) (w : World) :
 Calls Tryd.prog 9 #[accV nm 1 at_ sz tu tg pl] w fun e w' => e = .returned (.string (((((((((nm ++ ⟨#[32, 105, 115, 32]⟩) ++ ⟨#[98, 105, 116, 32]⟩) ++ decB at_) ++ ⟨#[32, 116, 117, 114, 110, 101, 100, 32]⟩) ++ decB tu) ++ ⟨#[32, 105, 102, 32]⟩) ++ decB tg) ++ ⟨#[32, 116, 101, 108, 108, 115, 32]⟩) ++ decB pl)) ∧ Below w.heap.size w w' := by
 have hge : 0 ≤ tg := ht.1
 have hge2 : decide (0 ≤ tg) = true := by simp; omega
 have HB0 := Lib.hid ((Below.refl w.heap.size w).alloc (Nat.le_refl _) (.cells #[.string nm, .int .i64 1, .int .i64 at_, .int .i64 sz, .int .i64 tu, .int .i64 tg, .int .i64 pl] 26))
 have R0 := Lib.hid (heap_alloc_new w (.cells #[.string nm, .int .i64 1, .int .i64 at_, .int .i64 sz, .int .i64 tu, .int .i64 tg, .int .i64 pl] 26))
 have HD0 := Lib.hid (fun W => l1Dec_int at_ (by omega) W)
 have hd0 := decB_size (t := at_) (by omega)
 have HDE0 : Hid ((⟨(Lib.itoa at_).toArray⟩ : ByteArray) = decB at_) := Lib.hid rfl
 rw [HDE0.out] at HD0
 have HD1 := Lib.hid (fun W => l1Dec_int tu (by omega) W)
 have hd1 := decB_size (t := tu) (by omega)
 have HDE1 : Hid ((⟨(Lib.itoa tu).toArray⟩ : ByteArray) = decB tu) := Lib.hid rfl
 rw [HDE1.out] at HD1
 have HD2 := Lib.hid (fun W => l1Dec_int tg (by omega) W)
 have hd2 := decB_size (t := tg) (by omega)
 have HDE2 : Hid ((⟨(Lib.itoa tg).toArray⟩ : ByteArray) = decB tg) := Lib.hid rfl
 rw [HDE2.out] at HD2
 have HD3 := Lib.hid (fun W => l1Dec_int pl (by omega) W)
 have hd3 := decB_size (t := pl) (by omega)
 have HDE3 : Hid ((⟨(Lib.itoa pl).toArray⟩ : ByteArray) = decB pl) := Lib.hid rfl
 rw [HDE3.out] at HD3
 generalize decB at_ = D0 at *
 generalize decB tu = D1 at *
 generalize decB tg = D2 at *
 generalize decB pl = D3 at *
 have h4 : (⟨#[32, 105, 115, 32]⟩ : ByteArray).size = 4 := rfl
 have g0 : (⟨#[98, 105, 116, 32]⟩ : ByteArray).size = 4 := rfl
 have g1 : (⟨#[32, 116, 117, 114, 110, 101, 100, 32]⟩ : ByteArray).size = 8 := rfl
 have g2 : (⟨#[32, 105, 102, 32]⟩ : ByteArray).size = 4 := rfl
 have g3 : (⟨#[32, 116, 101, 108, 108, 115, 32]⟩ : ByteArray).size = 7 := rfl
 obtain ⟨a0, a1, a2, a3, a4, a5, a6⟩ := cells7 R0.out
 unfold accV
 clear ht h0 hz hu hp
 go_enter Tryd.func9, Tryd.ntmps9
 go_wp2_with fail
 generalize w.alloc (.cells #[.string nm, .int .i64 1, .int .i64 at_, .int .i64 sz, .int .i64 tu, .int .i64 tg, .int .i64 pl] 26) = W at *
 clear a0 a1 a2 a3 a4 a5 a6
 have HDR : Hid (Below W.heap.size W W.drew) := Lib.hid ⟨rfl, rfl, rfl, Nat.le_refl _, fun _ _ => rfl⟩
 refine wp_region_held_drew (S := (fun V => V.heap[w.heap.size]? = some (.cells #[.string nm, .int .i64 1, .int .i64 at_, .int .i64 sz, .int .i64 tu, .int .i64 tg, .int .i64 pl] 26 (0, 0)))) (by kernel_rfl) ?_ (fun hH0 => ?_)
 · exact R0.out
 have hC := HDR.out
 have hHo := hH0
 clear hH0
 have u0 := R0.out
 refine wpAnyH_take (i := 0) (v := ?_) rfl (by kernel_rfl) (by kernel_rfl) (by kernel_rfl) (fun _ _ _ h => h) (Or.inl ⟨by rfl, ?_⟩) (by assumption) ?_
 rotate_left
 · intro w hSw
   (try dsimp only at hSw)
   obtain ⟨s0, s1, s2, s3, s4, s5, s6⟩ := cells7 hSw
   go_simp
   try with_reducible rfl
 try simp only [List.getElem_toArray, List.getElem_cons_succ, List.getElem_cons_zero, Act.put, List.setIfInBounds_toArray, List.set_cons_zero, List.set_cons_succ]
 refine wpAnyH_take (i := 1) (v := .string ((nm ++ ⟨#[32, 105, 115, 32]⟩) ++ ⟨#[98, 105, 116, 32]⟩)) rfl (by kernel_rfl) (by kernel_rfl) (by kernel_rfl) (fun _ _ _ h => h) (Or.inl ⟨by rfl, ?_⟩) (by assumption) ?_
 · intro w hSw
   go_simp
   try omega
 try simp only [List.getElem_toArray, List.getElem_cons_succ, List.getElem_cons_zero, Act.put, List.setIfInBounds_toArray, List.set_cons_zero, List.set_cons_succ]
 refine wpAnyH_take (i := 2) (v := ?_) rfl (by kernel_rfl) (by kernel_rfl) (by kernel_rfl) (fun _ _ _ h => h) (Or.inl ⟨by rfl, ?_⟩) (by assumption) ?_
 rotate_left
 · intro w hSw
   (try dsimp only at hSw)
   obtain ⟨s0, s1, s2, s3, s4, s5, s6⟩ := cells7 hSw
   go_simp
   try with_reducible rfl
 try simp only [List.getElem_toArray, List.getElem_cons_succ, List.getElem_cons_zero, Act.put, List.setIfInBounds_toArray, List.set_cons_zero, List.set_cons_succ]
 refine wpAnyH_take (i := 3) (v := ?_) rfl (by kernel_rfl) (by kernel_rfl) (by kernel_rfl) (fun _ _ _ h => h) (Or.inl ⟨by rfl, ?_⟩) (by assumption) ?_
 rotate_left
 · intro w hSw
   (try dsimp only at hSw)
   obtain ⟨s0, s1, s2, s3, s4, s5, s6⟩ := cells7 hSw
   go_simp
   try with_reducible rfl
 try simp only [List.getElem_toArray, List.getElem_cons_succ, List.getElem_cons_zero, Act.put, List.setIfInBounds_toArray, List.set_cons_zero, List.set_cons_succ]
 refine wpAnyH_take (i := 7) (v := ?_) rfl (by kernel_rfl) (by kernel_rfl) (by kernel_rfl) (fun _ _ _ h => h) (Or.inl ⟨by rfl, ?_⟩) (by assumption) ?_
 rotate_left
 · intro w hSw
   (try dsimp only at hSw)
   obtain ⟨s0, s1, s2, s3, s4, s5, s6⟩ := cells7 hSw
   go_simp
   try with_reducible rfl
 try simp only [List.getElem_toArray, List.getElem_cons_succ, List.getElem_cons_zero, Act.put, List.setIfInBounds_toArray, List.set_cons_zero, List.set_cons_succ]
 refine wpAnyH_take (i := 8) (v := ?_) rfl (by kernel_rfl) (by kernel_rfl) (by kernel_rfl) (fun _ _ _ h => h) (Or.inl ⟨by rfl, ?_⟩) (by assumption) ?_
 rotate_left
 · intro w hSw
   (try dsimp only at hSw)
   obtain ⟨s0, s1, s2, s3, s4, s5, s6⟩ := cells7 hSw
   go_simp
   try with_reducible rfl
 try simp only [List.getElem_toArray, List.getElem_cons_succ, List.getElem_cons_zero, Act.put, List.setIfInBounds_toArray, List.set_cons_zero, List.set_cons_succ]
 refine wpAnyH_ready (rs := [4]) (by kernel_rfl) (by simp) ?_
 refine AllReadyH.cons rfl (fun K hK => ?_) AllReadyH.nil
 go_simp
 go_at_call 21
 refine (HD0.out _).mono ?_
 rintro e w2 ⟨rfl, hb3⟩
 have hC' := hC.trans (hb3.mono hC.size)
 have v0 := (hb3.block _ (row_lt u0)).trans u0
 clear hb3 hC u0
 go_wp2_with fail
 refine hK.out _ _ v0 (fun hHn => ?_)
 clear hK K hHo
 have hHo := hHn
 clear hHn
 have u0 := v0
 have hC := hC'
 clear v0 hC'
 try simp only [List.getElem_toArray, List.getElem_cons_succ, List.getElem_cons_zero, Act.put, List.setIfInBounds_toArray, List.set_cons_zero, List.set_cons_succ]
 refine wpAnyH_take (i := 5) (v := .string (((nm ++ ⟨#[32, 105, 115, 32]⟩) ++ ⟨#[98, 105, 116, 32]⟩) ++ D0)) rfl (by kernel_rfl) (by kernel_rfl) (by kernel_rfl) (fun _ _ _ h => h) (Or.inl ⟨by rfl, ?_⟩) (by assumption) ?_
 · intro w hSw
   go_simp
   try omega
 try simp only [List.getElem_toArray, List.getElem_cons_succ, List.getElem_cons_zero, Act.put, List.setIfInBounds_toArray, List.set_cons_zero, List.set_cons_succ]
 refine wpAnyH_take (i := 6) (v := .string ((((nm ++ ⟨#[32, 105, 115, 32]⟩) ++ ⟨#[98, 105, 116, 32]⟩) ++ D0) ++ ⟨#[32, 116, 117, 114, 110, 101, 100, 32]⟩)) rfl (by kernel_rfl) (by kernel_rfl) (by kernel_rfl) (fun _ _ _ h => h) (Or.inl ⟨by rfl, ?_⟩) (by assumption) ?_
 · intro w hSw
   go_simp
   try omega
 try simp only [List.getElem_toArray, List.getElem_cons_succ, List.getElem_cons_zero, Act.put, List.setIfInBounds_toArray, List.set_cons_zero, List.set_cons_succ]
 refine wpAnyH_ready (rs := [9]) (by kernel_rfl) (by simp) ?_
 refine AllReadyH.cons rfl (fun K hK => ?_) AllReadyH.nil
 go_simp
 go_at_call 21
 refine (HD1.out _).mono ?_
 rintro e w3 ⟨rfl, hb3⟩
 have hC' := hC.trans (hb3.mono hC.size)
 have v0 := (hb3.block _ (row_lt u0)).trans u0
 clear hb3 hC u0
 go_wp2_with fail
 refine hK.out _ _ v0 (fun hHn => ?_)
 clear hK K hHo
 have hHo := hHn
 clear hHn
 have u0 := v0
 have hC := hC'
 clear v0 hC'
 try simp only [List.getElem_toArray, List.getElem_cons_succ, List.getElem_cons_zero, Act.put, List.setIfInBounds_toArray, List.set_cons_zero, List.set_cons_succ]
 refine wpAnyH_take (i := 10) (v := .string (((((nm ++ ⟨#[32, 105, 115, 32]⟩) ++ ⟨#[98, 105, 116, 32]⟩) ++ D0) ++ ⟨#[32, 116, 117, 114, 110, 101, 100, 32]⟩) ++ D1)) rfl (by kernel_rfl) (by kernel_rfl) (by kernel_rfl) (fun _ _ _ h => h) (Or.inl ⟨by rfl, ?_⟩) (by assumption) ?_
 · intro w hSw
   go_simp
   try omega
 try simp only [List.getElem_toArray, List.getElem_cons_succ, List.getElem_cons_zero, Act.put, List.setIfInBounds_toArray, List.set_cons_zero, List.set_cons_succ]
 refine wpAnyH_take (i := 11) (v := ?_) rfl (by kernel_rfl) (by kernel_rfl) (by kernel_rfl) (fun _ _ _ h => h) (Or.inl ⟨by rfl, ?_⟩) (by assumption) ?_
 rotate_left
 · intro w hSw
   (try dsimp only at hSw)
   obtain ⟨s0, s1, s2, s3, s4, s5, s6⟩ := cells7 hSw
   go_simp
   try with_reducible rfl
 try simp only [List.getElem_toArray, List.getElem_cons_succ, List.getElem_cons_zero, Act.put, List.setIfInBounds_toArray, List.set_cons_zero, List.set_cons_succ]
 refine wpAnyH_done (by kernel_rfl) ?_ _
 clear hHo
 have HB1 := Lib.hid (HB0.out.trans (hC.mono HB0.out.size))
 have R1 := Lib.hid u0
 clear hC u0 HDR
 obtain ⟨a0, a1, a2, a3, a4, a5, a6⟩ := cells7 R1.out
 go_wp2_with fail
 clear a0 a1 a2 a3 a4 a5 a6
 have HDR : Hid (Below w3.heap.size w3 w3.drew) := Lib.hid ⟨rfl, rfl, rfl, Nat.le_refl _, fun _ _ => rfl⟩
 refine wp_region_held_drew (S := (fun V => V.heap[w.heap.size]? = some (.cells #[.string nm, .int .i64 1, .int .i64 at_, .int .i64 sz, .int .i64 tu, .int .i64 tg, .int .i64 pl] 26 (0, 0)))) (by kernel_rfl) ?_ (fun hH0 => ?_)
 · exact R1.out
 have hC := HDR.out
 have hHo := hH0
 clear hH0
 have u0 := R1.out
 refine wpAnyH_take (i := 0) (v := ?_) rfl (by kernel_rfl) (by kernel_rfl) (by kernel_rfl) (fun _ _ _ h => h) (Or.inl ⟨by rfl, ?_⟩) (by assumption) ?_
 rotate_left
 · intro w hSw
   (try dsimp only at hSw)
   obtain ⟨s0, s1, s2, s3, s4, s5, s6⟩ := cells7 hSw
   go_simp
   try with_reducible rfl
 try simp only [List.getElem_toArray, List.getElem_cons_succ, List.getElem_cons_zero, Act.put, List.setIfInBounds_toArray, List.set_cons_zero, List.set_cons_succ]
 refine wpAnyH_take (i := 1) (v := .string ((((((nm ++ ⟨#[32, 105, 115, 32]⟩) ++ ⟨#[98, 105, 116, 32]⟩) ++ D0) ++ ⟨#[32, 116, 117, 114, 110, 101, 100, 32]⟩) ++ D1) ++ ⟨#[32, 105, 102, 32]⟩)) rfl (by kernel_rfl) (by kernel_rfl) (by kernel_rfl) (fun _ _ _ h => h) (Or.inl ⟨by rfl, ?_⟩) (by assumption) ?_
 · intro w hSw
   go_simp
   try omega
 try simp only [List.getElem_toArray, List.getElem_cons_succ, List.getElem_cons_zero, Act.put, List.setIfInBounds_toArray, List.set_cons_zero, List.set_cons_succ]
 refine wpAnyH_take (i := 2) (v := ?_) rfl (by kernel_rfl) (by kernel_rfl) (by kernel_rfl) (fun _ _ _ h => h) (Or.inl ⟨by rfl, ?_⟩) (by assumption) ?_
 rotate_left
 · intro w hSw
   (try dsimp only at hSw)
   obtain ⟨s0, s1, s2, s3, s4, s5, s6⟩ := cells7 hSw
   go_simp
   try with_reducible rfl
 try simp only [List.getElem_toArray, List.getElem_cons_succ, List.getElem_cons_zero, Act.put, List.setIfInBounds_toArray, List.set_cons_zero, List.set_cons_succ]
 refine wpAnyH_take (i := 3) (v := ?_) rfl (by kernel_rfl) (by kernel_rfl) (by kernel_rfl) (fun _ _ _ h => h) (Or.inl ⟨by rfl, ?_⟩) (by assumption) ?_
 rotate_left
 · intro w hSw
   (try dsimp only at hSw)
   obtain ⟨s0, s1, s2, s3, s4, s5, s6⟩ := cells7 hSw
   go_simp
   try with_reducible rfl
 try simp only [List.getElem_toArray, List.getElem_cons_succ, List.getElem_cons_zero, Act.put, List.setIfInBounds_toArray, List.set_cons_zero, List.set_cons_succ]
 refine wpAnyH_take (i := 7) (v := ?_) rfl (by kernel_rfl) (by kernel_rfl) (by kernel_rfl) (fun _ _ _ h => h) (Or.inl ⟨by rfl, ?_⟩) (by assumption) ?_
 rotate_left
 · intro w hSw
   (try dsimp only at hSw)
   obtain ⟨s0, s1, s2, s3, s4, s5, s6⟩ := cells7 hSw
   go_simp
   try with_reducible rfl
 try simp only [List.getElem_toArray, List.getElem_cons_succ, List.getElem_cons_zero, Act.put, List.setIfInBounds_toArray, List.set_cons_zero, List.set_cons_succ]
 refine wpAnyH_take (i := 8) (v := ?_) rfl (by kernel_rfl) (by kernel_rfl) (by kernel_rfl) (fun _ _ _ h => h) (Or.inl ⟨by rfl, ?_⟩) (by assumption) ?_
 rotate_left
 · intro w hSw
   (try dsimp only at hSw)
   obtain ⟨s0, s1, s2, s3, s4, s5, s6⟩ := cells7 hSw
   go_simp
   try with_reducible rfl
 try simp only [List.getElem_toArray, List.getElem_cons_succ, List.getElem_cons_zero, Act.put, List.setIfInBounds_toArray, List.set_cons_zero, List.set_cons_succ]
 refine wpAnyH_ready (rs := [4]) (by kernel_rfl) (by simp) ?_
 refine AllReadyH.cons rfl (fun K hK => ?_) AllReadyH.nil
 go_simp
 go_at_call 21
 refine (HD2.out _).mono ?_
 rintro e x2 ⟨rfl, hb3⟩
 have hC' := hC.trans (hb3.mono hC.size)
 have v0 := (hb3.block _ (row_lt u0)).trans u0
 clear hb3 hC u0
 go_wp2_with fail
 refine hK.out _ _ v0 (fun hHn => ?_)
 clear hK K hHo
 have hHo := hHn
 clear hHn
 have u0 := v0
 have hC := hC'
 clear v0 hC'
 try simp only [List.getElem_toArray, List.getElem_cons_succ, List.getElem_cons_zero, Act.put, List.setIfInBounds_toArray, List.set_cons_zero, List.set_cons_succ]
 refine wpAnyH_take (i := 5) (v := .string (((((((nm ++ ⟨#[32, 105, 115, 32]⟩) ++ ⟨#[98, 105, 116, 32]⟩) ++ D0) ++ ⟨#[32, 116, 117, 114, 110, 101, 100, 32]⟩) ++ D1) ++ ⟨#[32, 105, 102, 32]⟩) ++ D2)) rfl (by kernel_rfl) (by kernel_rfl) (by kernel_rfl) (fun _ _ _ h => h) (Or.inl ⟨by rfl, ?_⟩) (by assumption) ?_
 · intro w hSw
   go_simp
   try omega
 try simp only [List.getElem_toArray, List.getElem_cons_succ, List.getElem_cons_zero, Act.put, List.setIfInBounds_toArray, List.set_cons_zero, List.set_cons_succ]
 refine wpAnyH_take (i := 6) (v := .string ((((((((nm ++ ⟨#[32, 105, 115, 32]⟩) ++ ⟨#[98, 105, 116, 32]⟩) ++ D0) ++ ⟨#[32, 116, 117, 114, 110, 101, 100, 32]⟩) ++ D1) ++ ⟨#[32, 105, 102, 32]⟩) ++ D2) ++ ⟨#[32, 116, 101, 108, 108, 115, 32]⟩)) rfl (by kernel_rfl) (by kernel_rfl) (by kernel_rfl) (fun _ _ _ h => h) (Or.inl ⟨by rfl, ?_⟩) (by assumption) ?_
 · intro w hSw
   go_simp
   try omega
 try simp only [List.getElem_toArray, List.getElem_cons_succ, List.getElem_cons_zero, Act.put, List.setIfInBounds_toArray, List.set_cons_zero, List.set_cons_succ]
 refine wpAnyH_ready (rs := [9]) (by kernel_rfl) (by simp) ?_
 refine AllReadyH.cons rfl (fun K hK => ?_) AllReadyH.nil
 go_simp
 go_at_call 21
 refine (HD3.out _).mono ?_
 rintro e x3 ⟨rfl, hb3⟩
 have hC' := hC.trans (hb3.mono hC.size)
 have v0 := (hb3.block _ (row_lt u0)).trans u0
 clear hb3 hC u0
 go_wp2_with fail
 refine hK.out _ _ v0 (fun hHn => ?_)
 clear hK K hHo
 have hHo := hHn
 clear hHn
 have u0 := v0
 have hC := hC'
 clear v0 hC'
 try simp only [List.getElem_toArray, List.getElem_cons_succ, List.getElem_cons_zero, Act.put, List.setIfInBounds_toArray, List.set_cons_zero, List.set_cons_succ]
 refine wpAnyH_take (i := 10) (v := .string (((((((((nm ++ ⟨#[32, 105, 115, 32]⟩) ++ ⟨#[98, 105, 116, 32]⟩) ++ D0) ++ ⟨#[32, 116, 117, 114, 110, 101, 100, 32]⟩) ++ D1) ++ ⟨#[32, 105, 102, 32]⟩) ++ D2) ++ ⟨#[32, 116, 101, 108, 108, 115, 32]⟩) ++ D3)) rfl (by kernel_rfl) (by kernel_rfl) (by kernel_rfl) (fun _ _ _ h => h) (Or.inl ⟨by rfl, ?_⟩) (by assumption) ?_
 · intro w hSw
   go_simp
   try omega
 try simp only [List.getElem_toArray, List.getElem_cons_succ, List.getElem_cons_zero, Act.put, List.setIfInBounds_toArray, List.set_cons_zero, List.set_cons_succ]
 refine wpAnyH_take (i := 11) (v := ?_) rfl (by kernel_rfl) (by kernel_rfl) (by kernel_rfl) (fun _ _ _ h => h) (Or.inl ⟨by rfl, ?_⟩) (by assumption) ?_
 rotate_left
 · intro w hSw
   (try dsimp only at hSw)
   obtain ⟨s0, s1, s2, s3, s4, s5, s6⟩ := cells7 hSw
   go_simp
   try with_reducible rfl
 try simp only [List.getElem_toArray, List.getElem_cons_succ, List.getElem_cons_zero, Act.put, List.setIfInBounds_toArray, List.set_cons_zero, List.set_cons_succ]
 refine wpAnyH_done (by kernel_rfl) ?_ _
 clear hHo
 have HB2 := Lib.hid (HB1.out.trans (hC.mono HB1.out.size))
 clear hC u0
 go_wp2
 go_ret
 exact ⟨rfl, HB2.out⟩
theorem l12Text_2t (nm : ByteArray) (hs : nm.size ≤ 10) (at_ sz tu tg pl : Int) (h0 : 0 ≤ at_ ∧ at_ ≤ 12799) (hz : 0 ≤ sz ∧ sz ≤ 8) (hu : -1000000000000000000 ≤ tu ∧ tu ≤ 1000000000000000000) (ht : 0 ≤ tg ∧ tg ≤ 1598) (hp : 0 ≤ pl ∧ pl ≤ 65535) (w : World) :
 Calls Tryd.prog 9 #[accV nm 2 at_ sz tu tg pl] w fun e w' => e = .returned (.string (((((((((((nm ++ ⟨#[32, 105, 115, 32]⟩) ++ ⟨#[98, 121, 116, 101, 115, 32]⟩) ++ decB at_) ++ ⟨#[32, 115, 105, 122, 101, 32]⟩) ++ decB sz) ++ ⟨#[32, 116, 117, 114, 110, 101, 100, 32]⟩) ++ decB tu) ++ ⟨#[32, 105, 102, 32]⟩) ++ decB tg) ++ ⟨#[32, 116, 101, 108, 108, 115, 32]⟩) ++ decB pl)) ∧ Below w.heap.size w w' := by
 have hge : 0 ≤ tg := ht.1
 have hge2 : decide (0 ≤ tg) = true := by simp; omega
 have HB0 := Lib.hid ((Below.refl w.heap.size w).alloc (Nat.le_refl _) (.cells #[.string nm, .int .i64 2, .int .i64 at_, .int .i64 sz, .int .i64 tu, .int .i64 tg, .int .i64 pl] 26))
 have R0 := Lib.hid (heap_alloc_new w (.cells #[.string nm, .int .i64 2, .int .i64 at_, .int .i64 sz, .int .i64 tu, .int .i64 tg, .int .i64 pl] 26))
 have HD0 := Lib.hid (fun W => l1Dec_int at_ (by omega) W)
 have hd0 := decB_size (t := at_) (by omega)
 have HDE0 : Hid ((⟨(Lib.itoa at_).toArray⟩ : ByteArray) = decB at_) := Lib.hid rfl
 rw [HDE0.out] at HD0
 have HD1 := Lib.hid (fun W => l1Dec_int sz (by omega) W)
 have hd1 := decB_size (t := sz) (by omega)
 have HDE1 : Hid ((⟨(Lib.itoa sz).toArray⟩ : ByteArray) = decB sz) := Lib.hid rfl
 rw [HDE1.out] at HD1
 have HD2 := Lib.hid (fun W => l1Dec_int tu (by omega) W)
 have hd2 := decB_size (t := tu) (by omega)
 have HDE2 : Hid ((⟨(Lib.itoa tu).toArray⟩ : ByteArray) = decB tu) := Lib.hid rfl
 rw [HDE2.out] at HD2
 have HD3 := Lib.hid (fun W => l1Dec_int tg (by omega) W)
 have hd3 := decB_size (t := tg) (by omega)
 have HDE3 : Hid ((⟨(Lib.itoa tg).toArray⟩ : ByteArray) = decB tg) := Lib.hid rfl
 rw [HDE3.out] at HD3
 have HD4 := Lib.hid (fun W => l1Dec_int pl (by omega) W)
 have hd4 := decB_size (t := pl) (by omega)
 have HDE4 : Hid ((⟨(Lib.itoa pl).toArray⟩ : ByteArray) = decB pl) := Lib.hid rfl
 rw [HDE4.out] at HD4
 generalize decB at_ = D0 at *
 generalize decB sz = D1 at *
 generalize decB tu = D2 at *
 generalize decB tg = D3 at *
 generalize decB pl = D4 at *
 have h4 : (⟨#[32, 105, 115, 32]⟩ : ByteArray).size = 4 := rfl
 have g0 : (⟨#[98, 121, 116, 101, 115, 32]⟩ : ByteArray).size = 6 := rfl
 have g1 : (⟨#[32, 115, 105, 122, 101, 32]⟩ : ByteArray).size = 6 := rfl
 have g2 : (⟨#[32, 116, 117, 114, 110, 101, 100, 32]⟩ : ByteArray).size = 8 := rfl
 have g3 : (⟨#[32, 105, 102, 32]⟩ : ByteArray).size = 4 := rfl
 have g4 : (⟨#[32, 116, 101, 108, 108, 115, 32]⟩ : ByteArray).size = 7 := rfl
 obtain ⟨a0, a1, a2, a3, a4, a5, a6⟩ := cells7 R0.out
 unfold accV
 clear ht h0 hz hu hp
 go_enter Tryd.func9, Tryd.ntmps9
 go_wp2_with fail
 generalize w.alloc (.cells #[.string nm, .int .i64 2, .int .i64 at_, .int .i64 sz, .int .i64 tu, .int .i64 tg, .int .i64 pl] 26) = W at *
 clear a0 a1 a2 a3 a4 a5 a6
 have HDR : Hid (Below W.heap.size W W.drew) := Lib.hid ⟨rfl, rfl, rfl, Nat.le_refl _, fun _ _ => rfl⟩
 refine wp_region_held_drew (S := (fun V => V.heap[w.heap.size]? = some (.cells #[.string nm, .int .i64 2, .int .i64 at_, .int .i64 sz, .int .i64 tu, .int .i64 tg, .int .i64 pl] 26 (0, 0)))) (by kernel_rfl) ?_ (fun hH0 => ?_)
 · exact R0.out
 have hC := HDR.out
 have hHo := hH0
 clear hH0
 have u0 := R0.out
 refine wpAnyH_take (i := 0) (v := ?_) rfl (by kernel_rfl) (by kernel_rfl) (by kernel_rfl) (fun _ _ _ h => h) (Or.inl ⟨by rfl, ?_⟩) (by assumption) ?_
 rotate_left
 · intro w hSw
   (try dsimp only at hSw)
   obtain ⟨s0, s1, s2, s3, s4, s5, s6⟩ := cells7 hSw
   go_simp
   try with_reducible rfl
 try simp only [List.getElem_toArray, List.getElem_cons_succ, List.getElem_cons_zero, Act.put, List.setIfInBounds_toArray, List.set_cons_zero, List.set_cons_succ]
 refine wpAnyH_take (i := 1) (v := .string ((nm ++ ⟨#[32, 105, 115, 32]⟩) ++ ⟨#[98, 121, 116, 101, 115, 32]⟩)) rfl (by kernel_rfl) (by kernel_rfl) (by kernel_rfl) (fun _ _ _ h => h) (Or.inl ⟨by rfl, ?_⟩) (by assumption) ?_
 · intro w hSw
   go_simp
   try omega
 try simp only [List.getElem_toArray, List.getElem_cons_succ, List.getElem_cons_zero, Act.put, List.setIfInBounds_toArray, List.set_cons_zero, List.set_cons_succ]
 refine wpAnyH_take (i := 2) (v := ?_) rfl (by kernel_rfl) (by kernel_rfl) (by kernel_rfl) (fun _ _ _ h => h) (Or.inl ⟨by rfl, ?_⟩) (by assumption) ?_
 rotate_left
 · intro w hSw
   (try dsimp only at hSw)
   obtain ⟨s0, s1, s2, s3, s4, s5, s6⟩ := cells7 hSw
   go_simp
   try with_reducible rfl
 try simp only [List.getElem_toArray, List.getElem_cons_succ, List.getElem_cons_zero, Act.put, List.setIfInBounds_toArray, List.set_cons_zero, List.set_cons_succ]
 refine wpAnyH_take (i := 3) (v := ?_) rfl (by kernel_rfl) (by kernel_rfl) (by kernel_rfl) (fun _ _ _ h => h) (Or.inl ⟨by rfl, ?_⟩) (by assumption) ?_
 rotate_left
 · intro w hSw
   (try dsimp only at hSw)
   obtain ⟨s0, s1, s2, s3, s4, s5, s6⟩ := cells7 hSw
   go_simp
   try with_reducible rfl
 try simp only [List.getElem_toArray, List.getElem_cons_succ, List.getElem_cons_zero, Act.put, List.setIfInBounds_toArray, List.set_cons_zero, List.set_cons_succ]
 refine wpAnyH_take (i := 7) (v := ?_) rfl (by kernel_rfl) (by kernel_rfl) (by kernel_rfl) (fun _ _ _ h => h) (Or.inl ⟨by rfl, ?_⟩) (by assumption) ?_
 rotate_left
 · intro w hSw
   (try dsimp only at hSw)
   obtain ⟨s0, s1, s2, s3, s4, s5, s6⟩ := cells7 hSw
   go_simp
   try with_reducible rfl
 try simp only [List.getElem_toArray, List.getElem_cons_succ, List.getElem_cons_zero, Act.put, List.setIfInBounds_toArray, List.set_cons_zero, List.set_cons_succ]
 refine wpAnyH_take (i := 8) (v := ?_) rfl (by kernel_rfl) (by kernel_rfl) (by kernel_rfl) (fun _ _ _ h => h) (Or.inl ⟨by rfl, ?_⟩) (by assumption) ?_
 rotate_left
 · intro w hSw
   (try dsimp only at hSw)
   obtain ⟨s0, s1, s2, s3, s4, s5, s6⟩ := cells7 hSw
   go_simp
   try with_reducible rfl
 try simp only [List.getElem_toArray, List.getElem_cons_succ, List.getElem_cons_zero, Act.put, List.setIfInBounds_toArray, List.set_cons_zero, List.set_cons_succ]
 refine wpAnyH_take (i := 12) (v := ?_) rfl (by kernel_rfl) (by kernel_rfl) (by kernel_rfl) (fun _ _ _ h => h) (Or.inl ⟨by rfl, ?_⟩) (by assumption) ?_
 rotate_left
 · intro w hSw
   (try dsimp only at hSw)
   obtain ⟨s0, s1, s2, s3, s4, s5, s6⟩ := cells7 hSw
   go_simp
   try with_reducible rfl
 try simp only [List.getElem_toArray, List.getElem_cons_succ, List.getElem_cons_zero, Act.put, List.setIfInBounds_toArray, List.set_cons_zero, List.set_cons_succ]
 refine wpAnyH_take (i := 13) (v := ?_) rfl (by kernel_rfl) (by kernel_rfl) (by kernel_rfl) (fun _ _ _ h => h) (Or.inl ⟨by rfl, ?_⟩) (by assumption) ?_
 rotate_left
 · intro w hSw
   (try dsimp only at hSw)
   obtain ⟨s0, s1, s2, s3, s4, s5, s6⟩ := cells7 hSw
   go_simp
   try with_reducible rfl
 try simp only [List.getElem_toArray, List.getElem_cons_succ, List.getElem_cons_zero, Act.put, List.setIfInBounds_toArray, List.set_cons_zero, List.set_cons_succ]
 refine wpAnyH_ready (rs := [4]) (by kernel_rfl) (by simp) ?_
 refine AllReadyH.cons rfl (fun K hK => ?_) AllReadyH.nil
 go_simp
 go_at_call 21
 refine (HD0.out _).mono ?_
 rintro e w2 ⟨rfl, hb3⟩
 have hC' := hC.trans (hb3.mono hC.size)
 have v0 := (hb3.block _ (row_lt u0)).trans u0
 clear hb3 hC u0
 go_wp2_with fail
 refine hK.out _ _ v0 (fun hHn => ?_)
 clear hK K hHo
 have hHo := hHn
 clear hHn
 have u0 := v0
 have hC := hC'
 clear v0 hC'
 try simp only [List.getElem_toArray, List.getElem_cons_succ, List.getElem_cons_zero, Act.put, List.setIfInBounds_toArray, List.set_cons_zero, List.set_cons_succ]
 refine wpAnyH_take (i := 5) (v := .string (((nm ++ ⟨#[32, 105, 115, 32]⟩) ++ ⟨#[98, 121, 116, 101, 115, 32]⟩) ++ D0)) rfl (by kernel_rfl) (by kernel_rfl) (by kernel_rfl) (fun _ _ _ h => h) (Or.inl ⟨by rfl, ?_⟩) (by assumption) ?_
 · intro w hSw
   go_simp
   try omega
 try simp only [List.getElem_toArray, List.getElem_cons_succ, List.getElem_cons_zero, Act.put, List.setIfInBounds_toArray, List.set_cons_zero, List.set_cons_succ]
 refine wpAnyH_take (i := 6) (v := .string ((((nm ++ ⟨#[32, 105, 115, 32]⟩) ++ ⟨#[98, 121, 116, 101, 115, 32]⟩) ++ D0) ++ ⟨#[32, 115, 105, 122, 101, 32]⟩)) rfl (by kernel_rfl) (by kernel_rfl) (by kernel_rfl) (fun _ _ _ h => h) (Or.inl ⟨by rfl, ?_⟩) (by assumption) ?_
 · intro w hSw
   go_simp
   try omega
 try simp only [List.getElem_toArray, List.getElem_cons_succ, List.getElem_cons_zero, Act.put, List.setIfInBounds_toArray, List.set_cons_zero, List.set_cons_succ]
 refine wpAnyH_ready (rs := [9]) (by kernel_rfl) (by simp) ?_
 refine AllReadyH.cons rfl (fun K hK => ?_) AllReadyH.nil
 go_simp
 go_at_call 21
 refine (HD1.out _).mono ?_
 rintro e w3 ⟨rfl, hb3⟩
 have hC' := hC.trans (hb3.mono hC.size)
 have v0 := (hb3.block _ (row_lt u0)).trans u0
 clear hb3 hC u0
 go_wp2_with fail
 refine hK.out _ _ v0 (fun hHn => ?_)
 clear hK K hHo
 have hHo := hHn
 clear hHn
 have u0 := v0
 have hC := hC'
 clear v0 hC'
 try simp only [List.getElem_toArray, List.getElem_cons_succ, List.getElem_cons_zero, Act.put, List.setIfInBounds_toArray, List.set_cons_zero, List.set_cons_succ]
 refine wpAnyH_take (i := 10) (v := .string (((((nm ++ ⟨#[32, 105, 115, 32]⟩) ++ ⟨#[98, 121, 116, 101, 115, 32]⟩) ++ D0) ++ ⟨#[32, 115, 105, 122, 101, 32]⟩) ++ D1)) rfl (by kernel_rfl) (by kernel_rfl) (by kernel_rfl) (fun _ _ _ h => h) (Or.inl ⟨by rfl, ?_⟩) (by assumption) ?_
 · intro w hSw
   go_simp
   try omega
 try simp only [List.getElem_toArray, List.getElem_cons_succ, List.getElem_cons_zero, Act.put, List.setIfInBounds_toArray, List.set_cons_zero, List.set_cons_succ]
 refine wpAnyH_take (i := 11) (v := .string ((((((nm ++ ⟨#[32, 105, 115, 32]⟩) ++ ⟨#[98, 121, 116, 101, 115, 32]⟩) ++ D0) ++ ⟨#[32, 115, 105, 122, 101, 32]⟩) ++ D1) ++ ⟨#[32, 116, 117, 114, 110, 101, 100, 32]⟩)) rfl (by kernel_rfl) (by kernel_rfl) (by kernel_rfl) (fun _ _ _ h => h) (Or.inl ⟨by rfl, ?_⟩) (by assumption) ?_
 · intro w hSw
   go_simp
   try omega
 try simp only [List.getElem_toArray, List.getElem_cons_succ, List.getElem_cons_zero, Act.put, List.setIfInBounds_toArray, List.set_cons_zero, List.set_cons_succ]
 refine wpAnyH_ready (rs := [14]) (by kernel_rfl) (by simp) ?_
 refine AllReadyH.cons rfl (fun K hK => ?_) AllReadyH.nil
 go_simp
 go_at_call 21
 refine (HD2.out _).mono ?_
 rintro e w4 ⟨rfl, hb3⟩
 have hC' := hC.trans (hb3.mono hC.size)
 have v0 := (hb3.block _ (row_lt u0)).trans u0
 clear hb3 hC u0
 go_wp2_with fail
 refine hK.out _ _ v0 (fun hHn => ?_)
 clear hK K hHo
 have hHo := hHn
 clear hHn
 have u0 := v0
 have hC := hC'
 clear v0 hC'
 try simp only [List.getElem_toArray, List.getElem_cons_succ, List.getElem_cons_zero, Act.put, List.setIfInBounds_toArray, List.set_cons_zero, List.set_cons_succ]
 refine wpAnyH_take (i := 15) (v := .string (((((((nm ++ ⟨#[32, 105, 115, 32]⟩) ++ ⟨#[98, 121, 116, 101, 115, 32]⟩) ++ D0) ++ ⟨#[32, 115, 105, 122, 101, 32]⟩) ++ D1) ++ ⟨#[32, 116, 117, 114, 110, 101, 100, 32]⟩) ++ D2)) rfl (by kernel_rfl) (by kernel_rfl) (by kernel_rfl) (fun _ _ _ h => h) (Or.inl ⟨by rfl, ?_⟩) (by assumption) ?_
 · intro w hSw
   go_simp
   try omega
 try simp only [List.getElem_toArray, List.getElem_cons_succ, List.getElem_cons_zero, Act.put, List.setIfInBounds_toArray, List.set_cons_zero, List.set_cons_succ]
 refine wpAnyH_take (i := 16) (v := ?_) rfl (by kernel_rfl) (by kernel_rfl) (by kernel_rfl) (fun _ _ _ h => h) (Or.inl ⟨by rfl, ?_⟩) (by assumption) ?_
 rotate_left
 · intro w hSw
   (try dsimp only at hSw)
   obtain ⟨s0, s1, s2, s3, s4, s5, s6⟩ := cells7 hSw
   go_simp
   try with_reducible rfl
 try simp only [List.getElem_toArray, List.getElem_cons_succ, List.getElem_cons_zero, Act.put, List.setIfInBounds_toArray, List.set_cons_zero, List.set_cons_succ]
 refine wpAnyH_done (by kernel_rfl) ?_ _
 clear hHo
 have HB1 := Lib.hid (HB0.out.trans (hC.mono HB0.out.size))
 have R1 := Lib.hid u0
 clear hC u0 HDR
 obtain ⟨a0, a1, a2, a3, a4, a5, a6⟩ := cells7 R1.out
 go_wp2_with fail
 clear a0 a1 a2 a3 a4 a5 a6
 have HDR : Hid (Below w4.heap.size w4 w4.drew) := Lib.hid ⟨rfl, rfl, rfl, Nat.le_refl _, fun _ _ => rfl⟩
 refine wp_region_held_drew (S := (fun V => V.heap[w.heap.size]? = some (.cells #[.string nm, .int .i64 2, .int .i64 at_, .int .i64 sz, .int .i64 tu, .int .i64 tg, .int .i64 pl] 26 (0, 0)))) (by kernel_rfl) ?_ (fun hH0 => ?_)
 · exact R1.out
 have hC := HDR.out
 have hHo := hH0
 clear hH0
 have u0 := R1.out
 refine wpAnyH_take (i := 0) (v := ?_) rfl (by kernel_rfl) (by kernel_rfl) (by kernel_rfl) (fun _ _ _ h => h) (Or.inl ⟨by rfl, ?_⟩) (by assumption) ?_
 rotate_left
 · intro w hSw
   (try dsimp only at hSw)
   obtain ⟨s0, s1, s2, s3, s4, s5, s6⟩ := cells7 hSw
   go_simp
   try with_reducible rfl
 try simp only [List.getElem_toArray, List.getElem_cons_succ, List.getElem_cons_zero, Act.put, List.setIfInBounds_toArray, List.set_cons_zero, List.set_cons_succ]
 refine wpAnyH_take (i := 1) (v := .string ((((((((nm ++ ⟨#[32, 105, 115, 32]⟩) ++ ⟨#[98, 121, 116, 101, 115, 32]⟩) ++ D0) ++ ⟨#[32, 115, 105, 122, 101, 32]⟩) ++ D1) ++ ⟨#[32, 116, 117, 114, 110, 101, 100, 32]⟩) ++ D2) ++ ⟨#[32, 105, 102, 32]⟩)) rfl (by kernel_rfl) (by kernel_rfl) (by kernel_rfl) (fun _ _ _ h => h) (Or.inl ⟨by rfl, ?_⟩) (by assumption) ?_
 · intro w hSw
   go_simp
   try omega
 try simp only [List.getElem_toArray, List.getElem_cons_succ, List.getElem_cons_zero, Act.put, List.setIfInBounds_toArray, List.set_cons_zero, List.set_cons_succ]
 refine wpAnyH_take (i := 2) (v := ?_) rfl (by kernel_rfl) (by kernel_rfl) (by kernel_rfl) (fun _ _ _ h => h) (Or.inl ⟨by rfl, ?_⟩) (by assumption) ?_
 rotate_left
 · intro w hSw
   (try dsimp only at hSw)
   obtain ⟨s0, s1, s2, s3, s4, s5, s6⟩ := cells7 hSw
   go_simp
   try with_reducible rfl
 try simp only [List.getElem_toArray, List.getElem_cons_succ, List.getElem_cons_zero, Act.put, List.setIfInBounds_toArray, List.set_cons_zero, List.set_cons_succ]
 refine wpAnyH_take (i := 3) (v := ?_) rfl (by kernel_rfl) (by kernel_rfl) (by kernel_rfl) (fun _ _ _ h => h) (Or.inl ⟨by rfl, ?_⟩) (by assumption) ?_
 rotate_left
 · intro w hSw
   (try dsimp only at hSw)
   obtain ⟨s0, s1, s2, s3, s4, s5, s6⟩ := cells7 hSw
   go_simp
   try with_reducible rfl
 try simp only [List.getElem_toArray, List.getElem_cons_succ, List.getElem_cons_zero, Act.put, List.setIfInBounds_toArray, List.set_cons_zero, List.set_cons_succ]
 refine wpAnyH_take (i := 7) (v := ?_) rfl (by kernel_rfl) (by kernel_rfl) (by kernel_rfl) (fun _ _ _ h => h) (Or.inl ⟨by rfl, ?_⟩) (by assumption) ?_
 rotate_left
 · intro w hSw
   (try dsimp only at hSw)
   obtain ⟨s0, s1, s2, s3, s4, s5, s6⟩ := cells7 hSw
   go_simp
   try with_reducible rfl
 try simp only [List.getElem_toArray, List.getElem_cons_succ, List.getElem_cons_zero, Act.put, List.setIfInBounds_toArray, List.set_cons_zero, List.set_cons_succ]
 refine wpAnyH_take (i := 8) (v := ?_) rfl (by kernel_rfl) (by kernel_rfl) (by kernel_rfl) (fun _ _ _ h => h) (Or.inl ⟨by rfl, ?_⟩) (by assumption) ?_
 rotate_left
 · intro w hSw
   (try dsimp only at hSw)
   obtain ⟨s0, s1, s2, s3, s4, s5, s6⟩ := cells7 hSw
   go_simp
   try with_reducible rfl
 try simp only [List.getElem_toArray, List.getElem_cons_succ, List.getElem_cons_zero, Act.put, List.setIfInBounds_toArray, List.set_cons_zero, List.set_cons_succ]
 refine wpAnyH_ready (rs := [4]) (by kernel_rfl) (by simp) ?_
 refine AllReadyH.cons rfl (fun K hK => ?_) AllReadyH.nil
 go_simp
 go_at_call 21
 refine (HD3.out _).mono ?_
 rintro e x2 ⟨rfl, hb3⟩
 have hC' := hC.trans (hb3.mono hC.size)
 have v0 := (hb3.block _ (row_lt u0)).trans u0
 clear hb3 hC u0
 go_wp2_with fail
 refine hK.out _ _ v0 (fun hHn => ?_)
 clear hK K hHo
 have hHo := hHn
 clear hHn
 have u0 := v0
 have hC := hC'
 clear v0 hC'
 try simp only [List.getElem_toArray, List.getElem_cons_succ, List.getElem_cons_zero, Act.put, List.setIfInBounds_toArray, List.set_cons_zero, List.set_cons_succ]
 refine wpAnyH_take (i := 5) (v := .string (((((((((nm ++ ⟨#[32, 105, 115, 32]⟩) ++ ⟨#[98, 121, 116, 101, 115, 32]⟩) ++ D0) ++ ⟨#[32, 115, 105, 122, 101, 32]⟩) ++ D1) ++ ⟨#[32, 116, 117, 114, 110, 101, 100, 32]⟩) ++ D2) ++ ⟨#[32, 105, 102, 32]⟩) ++ D3)) rfl (by kernel_rfl) (by kernel_rfl) (by kernel_rfl) (fun _ _ _ h => h) (Or.inl ⟨by rfl, ?_⟩) (by assumption) ?_
 · intro w hSw
   go_simp
   try omega
 try simp only [List.getElem_toArray, List.getElem_cons_succ, List.getElem_cons_zero, Act.put, List.setIfInBounds_toArray, List.set_cons_zero, List.set_cons_succ]
 refine wpAnyH_take (i := 6) (v := .string ((((((((((nm ++ ⟨#[32, 105, 115, 32]⟩) ++ ⟨#[98, 121, 116, 101, 115, 32]⟩) ++ D0) ++ ⟨#[32, 115, 105, 122, 101, 32]⟩) ++ D1) ++ ⟨#[32, 116, 117, 114, 110, 101, 100, 32]⟩) ++ D2) ++ ⟨#[32, 105, 102, 32]⟩) ++ D3) ++ ⟨#[32, 116, 101, 108, 108, 115, 32]⟩)) rfl (by kernel_rfl) (by kernel_rfl) (by kernel_rfl) (fun _ _ _ h => h) (Or.inl ⟨by rfl, ?_⟩) (by assumption) ?_
 · intro w hSw
   go_simp
   try omega
 try simp only [List.getElem_toArray, List.getElem_cons_succ, List.getElem_cons_zero, Act.put, List.setIfInBounds_toArray, List.set_cons_zero, List.set_cons_succ]
 refine wpAnyH_ready (rs := [9]) (by kernel_rfl) (by simp) ?_
 refine AllReadyH.cons rfl (fun K hK => ?_) AllReadyH.nil
 go_simp
 go_at_call 21
 refine (HD4.out _).mono ?_
 rintro e x3 ⟨rfl, hb3⟩
 have hC' := hC.trans (hb3.mono hC.size)
 have v0 := (hb3.block _ (row_lt u0)).trans u0
 clear hb3 hC u0
 go_wp2_with fail
 refine hK.out _ _ v0 (fun hHn => ?_)
 clear hK K hHo
 have hHo := hHn
 clear hHn
 have u0 := v0
 have hC := hC'
 clear v0 hC'
 try simp only [List.getElem_toArray, List.getElem_cons_succ, List.getElem_cons_zero, Act.put, List.setIfInBounds_toArray, List.set_cons_zero, List.set_cons_succ]
 refine wpAnyH_take (i := 10) (v := .string (((((((((((nm ++ ⟨#[32, 105, 115, 32]⟩) ++ ⟨#[98, 121, 116, 101, 115, 32]⟩) ++ D0) ++ ⟨#[32, 115, 105, 122, 101, 32]⟩) ++ D1) ++ ⟨#[32, 116, 117, 114, 110, 101, 100, 32]⟩) ++ D2) ++ ⟨#[32, 105, 102, 32]⟩) ++ D3) ++ ⟨#[32, 116, 101, 108, 108, 115, 32]⟩) ++ D4)) rfl (by kernel_rfl) (by kernel_rfl) (by kernel_rfl) (fun _ _ _ h => h) (Or.inl ⟨by rfl, ?_⟩) (by assumption) ?_
 · intro w hSw
   go_simp
   try omega
 try simp only [List.getElem_toArray, List.getElem_cons_succ, List.getElem_cons_zero, Act.put, List.setIfInBounds_toArray, List.set_cons_zero, List.set_cons_succ]
 refine wpAnyH_take (i := 11) (v := ?_) rfl (by kernel_rfl) (by kernel_rfl) (by kernel_rfl) (fun _ _ _ h => h) (Or.inl ⟨by rfl, ?_⟩) (by assumption) ?_
 rotate_left
 · intro w hSw
   (try dsimp only at hSw)
   obtain ⟨s0, s1, s2, s3, s4, s5, s6⟩ := cells7 hSw
   go_simp
   try with_reducible rfl
 try simp only [List.getElem_toArray, List.getElem_cons_succ, List.getElem_cons_zero, Act.put, List.setIfInBounds_toArray, List.set_cons_zero, List.set_cons_succ]
 refine wpAnyH_done (by kernel_rfl) ?_ _
 clear hHo
 have HB2 := Lib.hid (HB1.out.trans (hC.mono HB1.out.size))
 clear hC u0
 go_wp2
 go_ret
 exact ⟨rfl, HB2.out⟩
theorem l12Text_3t (nm : ByteArray) (hs : nm.size ≤ 10) (at_ sz tu tg pl : Int) (h0 : 0 ≤ at_ ∧ at_ ≤ 12799) (hz : 0 ≤ sz ∧ sz ≤ 8) (hu : -1000000000000000000 ≤ tu ∧ tu ≤ 1000000000000000000) (ht : 0 ≤ tg ∧ tg ≤ 1598) (hp : 0 ≤ pl ∧ pl ≤ 65535) (w : World) :
 Calls Tryd.prog 9 #[accV nm 3 at_ sz tu tg pl] w fun e w' => e = .returned (.string (((((((nm ++ ⟨#[32, 105, 115, 32]⟩) ++ ⟨#[112, 111, 105, 110, 116, 101, 114, 32]⟩) ++ decB at_) ++ ⟨#[32, 105, 102, 32]⟩) ++ decB tg) ++ ⟨#[32, 116, 101, 108, 108, 115, 32]⟩) ++ decB pl)) ∧ Below w.heap.size w w' := by
 have hge : 0 ≤ tg := ht.1
 have hge2 : decide (0 ≤ tg) = true := by simp; omega
 have HB0 := Lib.hid ((Below.refl w.heap.size w).alloc (Nat.le_refl _) (.cells #[.string nm, .int .i64 3, .int .i64 at_, .int .i64 sz, .int .i64 tu, .int .i64 tg, .int .i64 pl] 26))
 have R0 := Lib.hid (heap_alloc_new w (.cells #[.string nm, .int .i64 3, .int .i64 at_, .int .i64 sz, .int .i64 tu, .int .i64 tg, .int .i64 pl] 26))
 have HD0 := Lib.hid (fun W => l1Dec_int at_ (by omega) W)
 have hd0 := decB_size (t := at_) (by omega)
 have HDE0 : Hid ((⟨(Lib.itoa at_).toArray⟩ : ByteArray) = decB at_) := Lib.hid rfl
 rw [HDE0.out] at HD0
 have HD1 := Lib.hid (fun W => l1Dec_int tg (by omega) W)
 have hd1 := decB_size (t := tg) (by omega)
 have HDE1 : Hid ((⟨(Lib.itoa tg).toArray⟩ : ByteArray) = decB tg) := Lib.hid rfl
 rw [HDE1.out] at HD1
 have HD2 := Lib.hid (fun W => l1Dec_int pl (by omega) W)
 have hd2 := decB_size (t := pl) (by omega)
 have HDE2 : Hid ((⟨(Lib.itoa pl).toArray⟩ : ByteArray) = decB pl) := Lib.hid rfl
 rw [HDE2.out] at HD2
 generalize decB at_ = D0 at *
 generalize decB tg = D1 at *
 generalize decB pl = D2 at *
 have h4 : (⟨#[32, 105, 115, 32]⟩ : ByteArray).size = 4 := rfl
 have g0 : (⟨#[112, 111, 105, 110, 116, 101, 114, 32]⟩ : ByteArray).size = 8 := rfl
 have g1 : (⟨#[32, 105, 102, 32]⟩ : ByteArray).size = 4 := rfl
 have g2 : (⟨#[32, 116, 101, 108, 108, 115, 32]⟩ : ByteArray).size = 7 := rfl
 obtain ⟨a0, a1, a2, a3, a4, a5, a6⟩ := cells7 R0.out
 unfold accV
 clear ht h0 hz hu hp
 go_enter Tryd.func9, Tryd.ntmps9
 go_wp2_with fail
 refine (HD0.out _).mono ?_
 rintro e w2 ⟨rfl, hb1⟩
 have R1 := Lib.hid (kept7 R0.out hb1)
 have HB1 := Lib.hid (HB0.out.trans (hb1.mono HB0.out.size))
 clear hb1 a0 a1 a2 a3 a4 a5 a6
 obtain ⟨a0, a1, a2, a3, a4, a5, a6⟩ := cells7 R1.out
 go_wp2_with fail
 clear a0 a1 a2 a3 a4 a5 a6
 have HDR : Hid (Below w2.heap.size w2 w2.drew) := Lib.hid ⟨rfl, rfl, rfl, Nat.le_refl _, fun _ _ => rfl⟩
 refine wp_region_held_drew (S := (fun V => V.heap[w.heap.size]? = some (.cells #[.string nm, .int .i64 3, .int .i64 at_, .int .i64 sz, .int .i64 tu, .int .i64 tg, .int .i64 pl] 26 (0, 0)))) (by kernel_rfl) ?_ (fun hH0 => ?_)
 · exact R1.out
 have hC := HDR.out
 have hHo := hH0
 clear hH0
 have u0 := R1.out
 refine wpAnyH_take (i := 0) (v := ?_) rfl (by kernel_rfl) (by kernel_rfl) (by kernel_rfl) (fun _ _ _ h => h) (Or.inl ⟨by rfl, ?_⟩) (by assumption) ?_
 rotate_left
 · intro w hSw
   (try dsimp only at hSw)
   obtain ⟨s0, s1, s2, s3, s4, s5, s6⟩ := cells7 hSw
   go_simp
   try with_reducible rfl
 try simp only [List.getElem_toArray, List.getElem_cons_succ, List.getElem_cons_zero, Act.put, List.setIfInBounds_toArray, List.set_cons_zero, List.set_cons_succ]
 refine wpAnyH_take (i := 1) (v := .string ((((nm ++ ⟨#[32, 105, 115, 32]⟩) ++ ⟨#[112, 111, 105, 110, 116, 101, 114, 32]⟩) ++ D0) ++ ⟨#[32, 105, 102, 32]⟩)) rfl (by kernel_rfl) (by kernel_rfl) (by kernel_rfl) (fun _ _ _ h => h) (Or.inl ⟨by rfl, ?_⟩) (by assumption) ?_
 · intro w hSw
   go_simp
   try omega
 try simp only [List.getElem_toArray, List.getElem_cons_succ, List.getElem_cons_zero, Act.put, List.setIfInBounds_toArray, List.set_cons_zero, List.set_cons_succ]
 refine wpAnyH_take (i := 2) (v := ?_) rfl (by kernel_rfl) (by kernel_rfl) (by kernel_rfl) (fun _ _ _ h => h) (Or.inl ⟨by rfl, ?_⟩) (by assumption) ?_
 rotate_left
 · intro w hSw
   (try dsimp only at hSw)
   obtain ⟨s0, s1, s2, s3, s4, s5, s6⟩ := cells7 hSw
   go_simp
   try with_reducible rfl
 try simp only [List.getElem_toArray, List.getElem_cons_succ, List.getElem_cons_zero, Act.put, List.setIfInBounds_toArray, List.set_cons_zero, List.set_cons_succ]
 refine wpAnyH_take (i := 3) (v := ?_) rfl (by kernel_rfl) (by kernel_rfl) (by kernel_rfl) (fun _ _ _ h => h) (Or.inl ⟨by rfl, ?_⟩) (by assumption) ?_
 rotate_left
 · intro w hSw
   (try dsimp only at hSw)
   obtain ⟨s0, s1, s2, s3, s4, s5, s6⟩ := cells7 hSw
   go_simp
   try with_reducible rfl
 try simp only [List.getElem_toArray, List.getElem_cons_succ, List.getElem_cons_zero, Act.put, List.setIfInBounds_toArray, List.set_cons_zero, List.set_cons_succ]
 refine wpAnyH_take (i := 7) (v := ?_) rfl (by kernel_rfl) (by kernel_rfl) (by kernel_rfl) (fun _ _ _ h => h) (Or.inl ⟨by rfl, ?_⟩) (by assumption) ?_
 rotate_left
 · intro w hSw
   (try dsimp only at hSw)
   obtain ⟨s0, s1, s2, s3, s4, s5, s6⟩ := cells7 hSw
   go_simp
   try with_reducible rfl
 try simp only [List.getElem_toArray, List.getElem_cons_succ, List.getElem_cons_zero, Act.put, List.setIfInBounds_toArray, List.set_cons_zero, List.set_cons_succ]
 refine wpAnyH_take (i := 8) (v := ?_) rfl (by kernel_rfl) (by kernel_rfl) (by kernel_rfl) (fun _ _ _ h => h) (Or.inl ⟨by rfl, ?_⟩) (by assumption) ?_
 rotate_left
 · intro w hSw
   (try dsimp only at hSw)
   obtain ⟨s0, s1, s2, s3, s4, s5, s6⟩ := cells7 hSw
   go_simp
   try with_reducible rfl
 try simp only [List.getElem_toArray, List.getElem_cons_succ, List.getElem_cons_zero, Act.put, List.setIfInBounds_toArray, List.set_cons_zero, List.set_cons_succ]
 refine wpAnyH_ready (rs := [4]) (by kernel_rfl) (by simp) ?_
 refine AllReadyH.cons rfl (fun K hK => ?_) AllReadyH.nil
 go_simp
 go_at_call 21
 refine (HD1.out _).mono ?_
 rintro e x2 ⟨rfl, hb3⟩
 have hC' := hC.trans (hb3.mono hC.size)
 have v0 := (hb3.block _ (row_lt u0)).trans u0
 clear hb3 hC u0
 go_wp2_with fail
 refine hK.out _ _ v0 (fun hHn => ?_)
 clear hK K hHo
 have hHo := hHn
 clear hHn
 have u0 := v0
 have hC := hC'
 clear v0 hC'
 try simp only [List.getElem_toArray, List.getElem_cons_succ, List.getElem_cons_zero, Act.put, List.setIfInBounds_toArray, List.set_cons_zero, List.set_cons_succ]
 refine wpAnyH_take (i := 5) (v := .string (((((nm ++ ⟨#[32, 105, 115, 32]⟩) ++ ⟨#[112, 111, 105, 110, 116, 101, 114, 32]⟩) ++ D0) ++ ⟨#[32, 105, 102, 32]⟩) ++ D1)) rfl (by kernel_rfl) (by kernel_rfl) (by kernel_rfl) (fun _ _ _ h => h) (Or.inl ⟨by rfl, ?_⟩) (by assumption) ?_
 · intro w hSw
   go_simp
   try omega
 try simp only [List.getElem_toArray, List.getElem_cons_succ, List.getElem_cons_zero, Act.put, List.setIfInBounds_toArray, List.set_cons_zero, List.set_cons_succ]
 refine wpAnyH_take (i := 6) (v := .string ((((((nm ++ ⟨#[32, 105, 115, 32]⟩) ++ ⟨#[112, 111, 105, 110, 116, 101, 114, 32]⟩) ++ D0) ++ ⟨#[32, 105, 102, 32]⟩) ++ D1) ++ ⟨#[32, 116, 101, 108, 108, 115, 32]⟩)) rfl (by kernel_rfl) (by kernel_rfl) (by kernel_rfl) (fun _ _ _ h => h) (Or.inl ⟨by rfl, ?_⟩) (by assumption) ?_
 · intro w hSw
   go_simp
   try omega
 try simp only [List.getElem_toArray, List.getElem_cons_succ, List.getElem_cons_zero, Act.put, List.setIfInBounds_toArray, List.set_cons_zero, List.set_cons_succ]
 refine wpAnyH_ready (rs := [9]) (by kernel_rfl) (by simp) ?_
 refine AllReadyH.cons rfl (fun K hK => ?_) AllReadyH.nil
 go_simp
 go_at_call 21
 refine (HD2.out _).mono ?_
 rintro e x3 ⟨rfl, hb3⟩
 have hC' := hC.trans (hb3.mono hC.size)
 have v0 := (hb3.block _ (row_lt u0)).trans u0
 clear hb3 hC u0
 go_wp2_with fail
 refine hK.out _ _ v0 (fun hHn => ?_)
 clear hK K hHo
 have hHo := hHn
 clear hHn
 have u0 := v0
 have hC := hC'
 clear v0 hC'
 try simp only [List.getElem_toArray, List.getElem_cons_succ, List.getElem_cons_zero, Act.put, List.setIfInBounds_toArray, List.set_cons_zero, List.set_cons_succ]
 refine wpAnyH_take (i := 10) (v := .string (((((((nm ++ ⟨#[32, 105, 115, 32]⟩) ++ ⟨#[112, 111, 105, 110, 116, 101, 114, 32]⟩) ++ D0) ++ ⟨#[32, 105, 102, 32]⟩) ++ D1) ++ ⟨#[32, 116, 101, 108, 108, 115, 32]⟩) ++ D2)) rfl (by kernel_rfl) (by kernel_rfl) (by kernel_rfl) (fun _ _ _ h => h) (Or.inl ⟨by rfl, ?_⟩) (by assumption) ?_
 · intro w hSw
   go_simp
   try omega
 try simp only [List.getElem_toArray, List.getElem_cons_succ, List.getElem_cons_zero, Act.put, List.setIfInBounds_toArray, List.set_cons_zero, List.set_cons_succ]
 refine wpAnyH_take (i := 11) (v := ?_) rfl (by kernel_rfl) (by kernel_rfl) (by kernel_rfl) (fun _ _ _ h => h) (Or.inl ⟨by rfl, ?_⟩) (by assumption) ?_
 rotate_left
 · intro w hSw
   (try dsimp only at hSw)
   obtain ⟨s0, s1, s2, s3, s4, s5, s6⟩ := cells7 hSw
   go_simp
   try with_reducible rfl
 try simp only [List.getElem_toArray, List.getElem_cons_succ, List.getElem_cons_zero, Act.put, List.setIfInBounds_toArray, List.set_cons_zero, List.set_cons_succ]
 refine wpAnyH_done (by kernel_rfl) ?_ _
 clear hHo
 have HB2 := Lib.hid (HB1.out.trans (hC.mono HB1.out.size))
 clear hC u0
 go_wp2
 go_ret
 exact ⟨rfl, HB2.out⟩
end Go.Proofs.YtfnecflkahmjoaaDoor
namespace Go.Proofs.YtfnecflkahmjoaaDoor
open Go.RowKit
theorem implAccessOk_any (nm : ByteArray) (k at_ sz tu tg pl : Int) (w : World) (hs : nm.size ≤ maxLen) (ht : i64b tu) (hp : i64b pl) :
 Calls Tryd.prog 10 #[accV nm k at_ sz tu tg pl] w fun e w' => e = .returned (.bool (accB nm k at_ sz tu tg pl)) ∧ Below w.heap.size w w' := by
 unfold accV
 have HE : Hid (accB nm k at_ sz tu tg pl = (nameB nm && (withB at_ 12800 && (tagB tg pl && partsB k at_ sz tu tg)))) := Lib.hid (by
  have e : inB at_ 0 12799 = withB at_ 12800 := by rw [Bool.eq_iff_iff]; simp [inB, withB]; omega
  unfold accB
  rw [e]
  cases nameB nm <;> cases tagB tg pl <;> cases withB at_ 12800 <;> rfl)
 have HB0 := Lib.hid ((Below.refl w.heap.size w).alloc (Nat.le_refl _) (.cells #[.string nm, .int .i64 k, .int .i64 at_, .int .i64 sz, .int .i64 tu, .int .i64 tg, .int .i64 pl] 26))
 cases hn : nameB nm
 · have HN := Lib.hid hn
   clear hn
   go_enter Tryd.func10, Tryd.ntmps10
   go_wp2_with (first | (go_at_call 22; refine (isName_any _ _ hs).mono ?_; rintro e w1 ⟨rfl, hb1⟩; rw [HN.out]; have hk2 := kept7 (heap_alloc_new w _) hb1; obtain ⟨c0, c1, c2, c3, c4, c5, c6⟩ := cells7 hk2; clear hk2))
   go_ret
   exact ⟨by rw [HE.out, HN.out]; rfl, HB0.out.trans (hb1.mono (by simp))⟩
 cases hw : withB at_ 12800
 · have HN := Lib.hid hn
   have HW := Lib.hid hw
   clear hn hw
   go_enter Tryd.func10, Tryd.ntmps10
   go_wp2_with (first | (go_at_call 22; refine (isName_any _ _ hs).mono ?_; rintro e w1 ⟨rfl, hb1⟩; rw [HN.out]; have hk2 := kept7 (heap_alloc_new w _) hb1; obtain ⟨c0, c1, c2, c3, c4, c5, c6⟩ := cells7 hk2; clear hk2) | (go_at_call 23; refine (within_any _ _ _).mono ?_; rintro e w' ⟨rfl, rfl⟩; rw [HW.out]))
   go_ret
   exact ⟨by rw [HE.out, HN.out, HW.out]; rfl, HB0.out.trans (hb1.mono (by simp))⟩
 have HAT : Hid (0 ≤ at_ ∧ at_ < 12800) := Lib.hid (by simpa [withB] using hw)
 cases hg : tagB tg pl
 · have HN := Lib.hid hn
   have HW := Lib.hid hw
   have HG := Lib.hid hg
   clear hn hw hg
   go_enter Tryd.func10, Tryd.ntmps10
   go_wp2_with (first | (go_at_call 22; refine (isName_any _ _ hs).mono ?_; rintro e w1 ⟨rfl, hb1⟩; rw [HN.out]; have hk2 := kept7 (heap_alloc_new w _) hb1; have HK2 := Lib.hid hk2; obtain ⟨c0, c1, c2, c3, c4, c5, c6⟩ := cells7 hk2; clear hk2) | (go_at_call 23; refine (within_any _ _ _).mono ?_; rintro e w' ⟨rfl, rfl⟩; rw [HW.out]) | (go_at_call 24; refine (tagOk_any nm k at_ sz tu tg pl _ hp).mono ?_; rintro e w2 ⟨rfl, hb2⟩; rw [HG.out]; have hk3 := kept7 HK2.out hb2; obtain ⟨d0, d1, d2, d3, d4, d5, d6⟩ := cells7 hk3; clear hk3))
   go_ret
   have H1 := HB0.out.trans (hb1.mono (by simp))
   exact ⟨by rw [HE.out, HN.out, HW.out, HG.out]; rfl, H1.trans (hb2.mono H1.size)⟩
 have htg : tg ≤ 100000 := by
  simp [tagB, inB] at hg
  omega
 have HTG := Lib.hid htg
 clear htg
 cases hq : partsB k at_ sz tu tg
 all_goals
  have HN := Lib.hid hn
  have HW := Lib.hid hw
  have HG := Lib.hid hg
  have HQ := Lib.hid hq
  clear hn hw hg hq
  go_enter Tryd.func10, Tryd.ntmps10
  go_wp2_with (first | (go_at_call 22; refine (isName_any _ _ hs).mono ?_; rintro e w1 ⟨rfl, hb1⟩; rw [HN.out]; have hk2 := kept7 (heap_alloc_new w _) hb1; have HK2 := Lib.hid hk2; obtain ⟨c0, c1, c2, c3, c4, c5, c6⟩ := cells7 hk2; clear hk2) | (go_at_call 23; refine (within_any _ _ _).mono ?_; rintro e w' ⟨rfl, rfl⟩; rw [HW.out]) | (go_at_call 24; refine (tagOk_any nm k at_ sz tu tg pl _ hp).mono ?_; rintro e w2 ⟨rfl, hb2⟩; rw [HG.out]; have hk3 := kept7 HK2.out hb2; obtain ⟨d0, d1, d2, d3, d4, d5, d6⟩ := cells7 hk3; clear hk3) | (go_at_call 25; refine (partsOk_any nm k at_ sz tu tg pl _ HAT.out HTG.out ht).mono ?_; rintro e w3 ⟨rfl, hb3⟩; rw [HQ.out]))
  go_ret
  have H1 := HB0.out.trans (hb1.mono (by simp))
  have H2 := H1.trans (hb2.mono H1.size)
  exact ⟨by rw [HE.out, HN.out, HW.out, HG.out, HQ.out]; rfl, H2.trans (hb3.mono H2.size)⟩
theorem toAccess_any (nm : ByteArray) (k at_ sz tu tg pl : Int) (w : World) :
 Calls Tryd.prog 6 #[accV nm k at_ sz tu tg pl] w fun e w' => e = .returned (accV nm k at_ sz tu tg pl) ∧ Below w.heap.size w w' := by
 unfold accV
 go_enter Tryd.func6, Tryd.ntmps6
 go_wp2
 exact bodyPost_ret (v := .agg #[.string nm, .int .i64 k, .int .i64 at_, .int .i64 sz, .int .i64 tu, .int .i64 tg, .int .i64 pl]) (by simp [results, Tryd.results6, go_sem]) rfl ⟨rfl, by repeat (first | exact Below.refl _ _ | refine Below.alloc ?_ (by simp; try omega) _)⟩
theorem szAccess_any (nm : ByteArray) (k at_ sz tu tg pl left : Int) (w : World) (hs : nm.size ≤ maxLen) (h0 : 0 ≤ left) (h1 : left ≤ 1048576) :
 Calls Tryd.prog 4 #[accV nm k at_ sz tu tg pl, .int .i64 left] w fun e w' => e = .returned (.int .i64 (if left - nm.size < 0 then -1 else left - nm.size)) ∧ Below w.heap.size w w' := by
 unfold accV
 unfold maxLen at hs
 by_cases h : left - nm.size < 0
 all_goals
  have HI : Hid ((if left - (nm.size : Int) < 0 then -1 else left - (nm.size : Int)) = (if left - (nm.size : Int) < 0 then -1 else left - (nm.size : Int))) := Lib.hid rfl
  go_enter Tryd.func4, Tryd.ntmps4
  go_wp2
  go_ret
  exact ⟨by simp [h], by repeat (first | exact Below.refl _ _ | refine Below.alloc ?_ (by simp; try omega) _)⟩
end Go.Proofs.YtfnecflkahmjoaaDoor
