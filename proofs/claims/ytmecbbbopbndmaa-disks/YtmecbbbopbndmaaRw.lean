import Derived.Test.YtmecbbbopbndmaaRa
namespace Go.Proofs.Ytmecbbbopbndmaa
open Go.RowKit

set_option maxHeartbeats 400000 in
theorem rwrite_dead (b : Nat) (i : Int) (s : ByteArray) (w : World) (h3 : w.cell? ⟨b, 3, none⟩ = some (.bool true)) :
    Calls Try.prog 15 #[.pointer (some ⟨b, 0, none⟩), .int .i64 i, .string s] w fun e w' => e = .returned (.int .i64 2) ∧ w' = w := by
  go_enter Try.func15, Try.ntmps15
  go_wp2_with fail
  go_ret
  exact ⟨rfl, rfl⟩

set_option maxHeartbeats 400000 in
theorem rwrite_range (b : Nat) (i : Int) (s : ByteArray) (v : Option Addr) (n c : Nat) (w : World) (h0 : w.cell? ⟨b, 0, none⟩ = some (.slice v n c)) (h3 : w.cell? ⟨b, 3, none⟩ = some (.bool false)) (hi : i < 0 ∨ (n : Int) ≤ i) :
    Calls Try.prog 15 #[.pointer (some ⟨b, 0, none⟩), .int .i64 i, .string s] w fun e w' => e = .returned (.int .i64 1) ∧ w' = w := by
  by_cases h : i < 0
  · go_enter Try.func15, Try.ntmps15
    go_wp2_with fail
    go_ret
    exact ⟨rfl, rfl⟩
  · have h' : (n : Int) ≤ i := by omega
    go_enter Try.func15, Try.ntmps15
    go_wp2_with fail
    go_ret
    exact ⟨rfl, rfl⟩

set_option maxHeartbeats 400000 in
theorem rwrite_len (b : Nat) (i : Int) (s : ByteArray) (v : Option Addr) (n c : Nat) (w : World) (h0 : w.cell? ⟨b, 0, none⟩ = some (.slice v n c)) (h3 : w.cell? ⟨b, 3, none⟩ = some (.bool false)) (hi0 : 0 ≤ i) (hi1 : i < n) (hs : s.size ≠ 16) :
    Calls Try.prog 15 #[.pointer (some ⟨b, 0, none⟩), .int .i64 i, .string s] w fun e w' => e = .returned (.int .i64 1) ∧ w' = w := by
  have hs' : ((s.size : Int) != 16) = true := by rw [bne_iff_ne]; omega
  go_enter Try.func15, Try.ntmps15
  go_wp2_with fail
  go_ret
  exact ⟨rfl, rfl⟩

set_option maxHeartbeats 400000 in
theorem rwrite_fuse (b : Nat) (i : Int) (s : ByteArray) (v : Option Addr) (n c : Nat) (w : World) (h0 : w.cell? ⟨b, 0, none⟩ = some (.slice v n c)) (h2 : w.cell? ⟨b, 2, none⟩ = some (.int .i64 0)) (h3 : w.cell? ⟨b, 3, none⟩ = some (.bool false))
    (f3 : w.frozen? ⟨b, 3, none⟩ = false) (hi0 : 0 ≤ i) (hi1 : i < n) (hs : s.size = 16) :
    Calls Try.prog 15 #[.pointer (some ⟨b, 0, none⟩), .int .i64 i, .string s] w fun e w' => e = .returned (.int .i64 2) ∧ w' = w.setCell ⟨b, 3, none⟩ (.bool true) := by
  have hs' : ((s.size : Int) != 16) = false := by simp [hs]
  go_enter Try.func15, Try.ntmps15
  go_wp2_with (go_at_call 44; refine (rstep_no _ _ _ h2 h3 f3).mono ?_; rintro e w' ⟨rfl, rfl⟩)
  go_ret
  exact ⟨rfl, rfl⟩

theorem info9 : (Try.prog.info? 9).map (fun i => (i.zero, i.size, i.bytes)) = some (some (.string ⟨#[]⟩), 1, 16) := by kernel_rfl

set_option maxRecDepth 100000 in
set_option maxHeartbeats 2000000 in
theorem rwrite_ok (b xs i n c c' k : Nat) (a : Option Addr) (s : ByteArray) (v : Value) (ys : List Value) (fuse : Int) (w w1 : World) (h0 : w.cell? ⟨b, 0, none⟩ = some (.slice a n c)) (h2 : w.cell? ⟨b, 2, none⟩ = some (.int .i64 fuse)) (h3 : w.cell? ⟨b, 3, none⟩ = some (.bool false)) (f2 : w.frozen? ⟨b, 2, none⟩ = false)
    (hi : i < n) (hs : s.size = 16) (hf : fuse ≠ 0) (hfb : fuse ≤ 9223372036854775807) (hw1 : w1 = if 0 < fuse then w.setCell ⟨b, 2, none⟩ (.int .i64 (fuse - 1)) else w)
    (h11 : w1.cell? ⟨b, 1, none⟩ = some (.slice (some ⟨xs, 0, none⟩) n c')) (hv : w1.cell? ⟨xs, i, none⟩ = some v) (hfv : w1.frozen? ⟨xs, i, none⟩ = false)
    (hown : w1.ownsRow 0 9 1 v k ys) (hk : (k : Int) ≤ 2199023255552) (hne : v.ownBlock ≠ some xs) (hne2 : v.ownBlock ≠ some b) :
    Calls Try.prog 15 #[.pointer (some ⟨b, 0, none⟩), .int .i64 (i : Int), .string s] w fun e w' => e = .returned (.int .i64 0) ∧
      ∃ g cap m w2, w' = w2.setCell ⟨xs, i, none⟩ (.slice (some ⟨g, 0, none⟩) (k + 1) cap) ∧ w2.ownsRow 0 9 1 (.slice (some ⟨g, 0, none⟩) (k + 1) cap) (k + 1) (ys ++ [.string s]) ∧
        ((w1.alloc (.cells #[.string s] 9)).drewN m).grownBy w2 v.ownBlock ∧ (v.ownBlock = some g ∨ w1.heap.size ≤ g) ∧ g < w2.heap.size := by
  have hlt1 : b < w1.heap.size := block_lt_of_cell h11
  have hlt2 : xs < w1.heap.size := block_lt_of_cell hv
  have hs' : ((s.size : Int) != 16) = false := by simp [hs]
  have hi' : (i : Int) < n := by omega
  have hi0 : (0 : Int) ≤ (i : Int) := by omega
  obtain ⟨i0, hinf, hz0, hz1, hz2⟩ := info_parts info9
  have Hinf := hd hinf
  have Hst := hd (rstep_yes b fuse w h2 hf hfb f2)
  have Hw1 := hd hw1
  have Hown := hd hown
  have Hne := hd hne
  have Hne2 := hd hne2
  clear hinf hw1 hown hne hf hne2
  go_enter Try.func15, Try.ntmps15
  go_wp2_with (go_at_call 44; refine Hst.out.mono ?_; rintro e wS ⟨rfl, hS⟩; rw [← Hw1.out] at hS; replace hS := hS.symm; subst hS)
  have hS0 : (fun wx : World => wx.cell? ⟨b, 1, none⟩ = some (.slice (some ⟨xs, 0, none⟩) n c') ∧ wx.cell? ⟨xs, i, none⟩ = some v ∧ wx.frozen? ⟨xs, i, none⟩ = false) w1.drew := ⟨h11, hv, hfv⟩
  refine wp_region_heldD (fun wx : World => wx.cell? ⟨b, 1, none⟩ = some (.slice (some ⟨xs, 0, none⟩) n c') ∧ wx.cell? ⟨xs, i, none⟩ = some v ∧ wx.frozen? ⟨xs, i, none⟩ = false) (fun j => j == 16) (by kernel_rfl) ?_
  refine wpAnyD_takeL (i := 0) (v := ?_) rfl (by kernel_rfl) (by kernel_rfl) (by kernel_rfl) (by kernel_rfl) (fun _ _ _ h => h) hS0 (Or.inl ⟨by rfl, ?_⟩) ?_
  rotate_left
  · intro w' ⟨hs1, hs2, hs3⟩; go_simp <;> rfl
  simp only [Act.put, List.setIfInBounds_toArray, List.set_cons_zero, List.set_cons_succ]
  refine wpAnyD_takeL (i := 1) (v := ?_) rfl (by kernel_rfl) (by kernel_rfl) (by kernel_rfl) (by kernel_rfl) (fun _ _ _ h => h) hS0 (Or.inl ⟨by rfl, ?_⟩) ?_
  rotate_left
  · intro w' ⟨hs1, hs2, hs3⟩; go_simp <;> rfl
  simp only [Act.put, List.setIfInBounds_toArray, List.set_cons_zero, List.set_cons_succ]
  refine wpAnyD_takeL (i := 2) (v := ?_) rfl (by kernel_rfl) (by kernel_rfl) (by kernel_rfl) (by kernel_rfl) (fun _ _ _ h => h) hS0 (Or.inl ⟨by rfl, ?_⟩) ?_
  rotate_left
  · intro w' ⟨hs1, hs2, hs3⟩; go_simp <;> rfl
  simp only [Act.put, List.setIfInBounds_toArray, List.set_cons_zero, List.set_cons_succ]
  refine wpAnyD_takeL (i := 3) (v := ?_) rfl (by kernel_rfl) (by kernel_rfl) (by kernel_rfl) (by kernel_rfl) (fun _ _ _ h => h) hS0 (Or.inl ⟨by rfl, ?_⟩) ?_
  rotate_left
  · intro w' ⟨hs1, hs2, hs3⟩; go_simp <;> rfl
  simp only [Act.put, List.setIfInBounds_toArray, List.set_cons_zero, List.set_cons_succ]
  refine wpAnyD_takeL (i := 4) (v := ?_) rfl (by kernel_rfl) (by kernel_rfl) (by kernel_rfl) (by kernel_rfl) (fun _ _ _ h => h) hS0 (Or.inl ⟨by rfl, ?_⟩) ?_
  rotate_left
  · intro w' ⟨hs1, hs2, hs3⟩; go_simp <;> rfl
  simp only [Act.put, List.setIfInBounds_toArray, List.set_cons_zero, List.set_cons_succ]
  refine wpAnyD_takeL (i := 5) (v := ?_) rfl (by kernel_rfl) (by kernel_rfl) (by kernel_rfl) (by kernel_rfl) (fun _ _ _ h => h) hS0 (Or.inl ⟨by rfl, ?_⟩) ?_
  rotate_left
  · intro w' ⟨hs1, hs2, hs3⟩; go_simp <;> rfl
  simp only [Act.put, List.setIfInBounds_toArray, List.set_cons_zero, List.set_cons_succ]
  refine wpAnyD_takeL (i := 6) (v := ?_) rfl (by kernel_rfl) (by kernel_rfl) (by kernel_rfl) (by kernel_rfl) (fun _ _ _ h => h) hS0 (Or.inl ⟨by rfl, ?_⟩) ?_
  rotate_left
  · intro w' ⟨hs1, hs2, hs3⟩; go_simp <;> rfl
  simp only [Act.put, List.setIfInBounds_toArray, List.set_cons_zero, List.set_cons_succ]
  refine wpAnyD_takeL (i := 7) (v := ?_) rfl (by kernel_rfl) (by kernel_rfl) (by kernel_rfl) (by kernel_rfl) (fun _ _ _ h => h) hS0 (Or.inl ⟨by rfl, ?_⟩) ?_
  rotate_left
  · intro w' ⟨hs1, hs2, hs3⟩; go_simp <;> rfl
  simp only [Act.put, List.setIfInBounds_toArray, List.set_cons_zero, List.set_cons_succ]
  refine wpAnyD_takeL (i := 8) (v := ?_) rfl (by kernel_rfl) (by kernel_rfl) (by kernel_rfl) (by kernel_rfl) (fun _ _ _ h => h) hS0 (Or.inl ⟨by rfl, ?_⟩) ?_
  rotate_left
  · intro w' ⟨hs1, hs2, hs3⟩; go_simp <;> rfl
  simp only [Act.put, List.setIfInBounds_toArray, List.set_cons_zero, List.set_cons_succ]
  refine wpAnyD_takeL (i := 9) (v := ?_) rfl (by kernel_rfl) (by kernel_rfl) (by kernel_rfl) (by kernel_rfl) (fun _ _ _ h => h) hS0 (Or.inl ⟨by rfl, ?_⟩) ?_
  rotate_left
  · intro w' ⟨hs1, hs2, hs3⟩; go_simp <;> rfl
  simp only [Act.put, List.setIfInBounds_toArray, List.set_cons_zero, List.set_cons_succ]
  refine wpAnyD_takeL (i := 10) (v := ?_) rfl (by kernel_rfl) (by kernel_rfl) (by kernel_rfl) (by kernel_rfl) (fun _ _ _ h => h) hS0 (Or.inl ⟨by rfl, ?_⟩) ?_
  rotate_left
  · intro w' ⟨hs1, hs2, hs3⟩; go_simp <;> rfl
  simp only [Act.put, List.setIfInBounds_toArray, List.set_cons_zero, List.set_cons_succ]
  refine wpAnyD_takeL (i := 11) (v := ?_) rfl (by kernel_rfl) (by kernel_rfl) (by kernel_rfl) (by kernel_rfl) (fun _ _ _ h => h) hS0 (Or.inl ⟨by rfl, ?_⟩) ?_
  rotate_left
  · intro w' ⟨hs1, hs2, hs3⟩; go_simp <;> rfl
  simp only [Act.put, List.setIfInBounds_toArray, List.set_cons_zero, List.set_cons_succ]
  refine wpAnyD_takeL (i := 12) (v := ?_) rfl (by kernel_rfl) (by kernel_rfl) (by kernel_rfl) (by kernel_rfl) (fun _ _ _ h => h) hS0 (Or.inl ⟨by rfl, ?_⟩) ?_
  rotate_left
  · intro w' ⟨hs1, hs2, hs3⟩; go_simp <;> rfl
  simp only [Act.put, List.setIfInBounds_toArray, List.set_cons_zero, List.set_cons_succ]
  refine wpAnyD_oneL (i := 13) rfl (by kernel_rfl) rfl (fun K hK => ?_)
  go_simp
  have hS1 : (fun wx : World => wx.cell? ⟨b, 1, none⟩ = some (.slice (some ⟨xs, 0, none⟩) n c') ∧ wx.cell? ⟨xs, i, none⟩ = some v ∧ wx.frozen? ⟨xs, i, none⟩ = false) ((w1.alloc (.cells #[.string s] 9)).drew) :=
    ⟨by simpa [World.cell?_alloc_lt, hlt1] using h11, by simpa [World.cell?_alloc_lt, hlt2] using hv, by simpa [World.frozen?_alloc_past, hlt2] using hfv⟩
  refine hK _ _ (fun _ => hS1) ?_
  clear hK K
  refine wpAnyD_oneL (i := 14) rfl (by kernel_rfl) rfl (fun K hK => ?_)
  refine wp_append_lies _ _ _ _ (by rfl) 0 9 i0 _ 1 16 Try.underlying44 Hinf.out hz0 hz1 hz2 rfl (by omega) v k ys (by rfl) (by exact (Hown.out.alloc _)) ⟨w1.heap.size, 0, none⟩ 1 1 [.string s] (by rfl) (by rfl) (World.news_of_block (cs := #[.string s]) (t := 9) (fr := (0, 0)) (heap_alloc_new w1 _)) (by simp [Value.oneCell']) (by omega) (by unfold maxLen; omega) (by omega) (by simp) _ rfl ?_
  intro gg cap w2 hown1 hgrow hat hlt
  have hb1 : b < ((w1.alloc (.cells #[.string s] 9)).drew).heap.size := by simp; omega
  have hb2 : xs < ((w1.alloc (.cells #[.string s] 9)).drew).heap.size := by simp; omega
  have hS2 : (fun wx : World => wx.cell? ⟨b, 1, none⟩ = some (.slice (some ⟨xs, 0, none⟩) n c') ∧ wx.cell? ⟨xs, i, none⟩ = some v ∧ wx.frozen? ⟨xs, i, none⟩ = false) w2 := ⟨by rw [hgrow.cell_far _ hb1 (Ne.symm Hne2.out)]; exact hS1.1, by rw [hgrow.cell_far _ hb2 (Ne.symm Hne.out)]; exact hS1.2.1, by rw [hgrow.frozen_far _ hb2 (Ne.symm Hne.out)]; exact hS1.2.2⟩
  refine hK _ _ (fun _ => hS2) ?_
  clear hK K
  simp only [Act.put, List.setIfInBounds_toArray, List.set_cons_zero, List.set_cons_succ]
  refine wpAnyD_oneL (i := 15) rfl (by kernel_rfl) rfl (fun K hK => ?_)
  go_simp
  refine hK _ _ (fun _ => hS2) ?_
  clear hK K
  refine wpAnyD_oneL (i := 16) rfl (by kernel_rfl) rfl (fun K hK => ?_)
  have hs1 := hS2.2.1
  have hs2 := hS2.2.2
  go_simp
  refine hK _ _ (fun h => by cases h) ?_
  clear hK K
  refine wpAnyD_done (by kernel_rfl) ?_ _
  refine NoPanic.normal ?_
  go_wp2_with fail
  go_ret
  refine ⟨rfl, gg, cap, 1, w2, rfl, hown1, hgrow, ?_, hlt⟩
  rcases hat with h | h
  · exact .inl h
  · right; rw [h]; simp
end Go.Proofs.Ytmecbbbopbndmaa
