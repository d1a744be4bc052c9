import Derived.Test.YtmecbbbopbndmaaPlace
import Derived.Test.YtmecbbbopbndmaaOrd
namespace Go.Proofs.Ytmecbbbopbndmaa
open Go.RowKit

theorem _root_.Go.World.ownsRow.notNew {w : World} {base : Nat} {e : TypeId} {size : Nat} {v : Value} {n : Nat} {xs : List Value} (h : w.ownsRow base e size v n xs) : v.ownBlock ≠ some w.heap.size := by
  rcases h.2 with ⟨rfl, _⟩ | ⟨g, cap, cur, rfl, _, hg, _⟩
  · simp [Value.ownBlock]
  · have := (Array.getElem?_eq_some_iff.1 hg).1
    simp [Value.ownBlock]; omega

theorem rangeAt_grown {w w' : World} {row : Option Nat} {b o : Nat} {cs : List Value} (h : w.rangeAt b o cs) (hg : w.grownBy w' row) (hlt : b < w.heap.size) (hne : some b ≠ row) : w'.rangeAt b o cs := fun j v hv => by
  rw [hg.cell_far ⟨b, o + j, none⟩ hlt hne]
  exact h j v hv

theorem sixteen {α : Type} (xs : List α) (h : xs.length = 16) : ∃ a0 a1 a2 a3 a4 a5 a6 a7 a8 a9 a10 a11 a12 a13 a14 a15, xs = [a0, a1, a2, a3, a4, a5, a6, a7, a8, a9, a10, a11, a12, a13, a14, a15] := by
  match xs, h with
  | [a0, a1, a2, a3, a4, a5, a6, a7, a8, a9, a10, a11, a12, a13, a14, a15], _ => exact ⟨a0, a1, a2, a3, a4, a5, a6, a7, a8, a9, a10, a11, a12, a13, a14, a15, rfl⟩

/-- the cells of a run: its bytes, and how often. -/
def runC (xs : List Int) (t : Int) : List Value := u8s xs ++ [.int .i64 t]
theorem runC_len {xs : List Int} (h : xs.length = 16) (t : Int) : (runC xs t).length = 17 := by simp [runC, h]
theorem runC_set {xs : List Int} (h : xs.length = 16) (t t' : Int) : (runC xs t).set 16 (.int .i64 t') = runC xs t' := by
  obtain ⟨a0, a1, a2, a3, a4, a5, a6, a7, a8, a9, a10, a11, a12, a13, a14, a15, rfl⟩ := sixteen xs h
  kernel_rfl
theorem runC_fold {xs : List Int} (h : xs.length = 16) : List.foldl (fun (cs : Array Value) (x : Value × Nat) => cs.setIfInBounds x.snd x.fst)
    #[Value.int IntKind.u8 0, Value.int IntKind.u8 0, Value.int IntKind.u8 0, Value.int IntKind.u8 0, Value.int IntKind.u8 0, Value.int IntKind.u8 0, Value.int IntKind.u8 0, Value.int IntKind.u8 0,
      Value.int IntKind.u8 0, Value.int IntKind.u8 0, Value.int IntKind.u8 0, Value.int IntKind.u8 0, Value.int IntKind.u8 0, Value.int IntKind.u8 0, Value.int IntKind.u8 0, Value.int IntKind.u8 0,
      Value.int IntKind.i64 0] (u8s xs).zipIdx = (runC xs 0).toArray := by
  obtain ⟨a0, a1, a2, a3, a4, a5, a6, a7, a8, a9, a10, a11, a12, a13, a14, a15, rfl⟩ := sixteen xs h
  kernel_rfl
theorem runC_fold2 {xs : List Int} (h : xs.length = 16) (t : Int) : List.foldl (fun (cs : Array Value) (x : Value × Nat) => cs.setIfInBounds x.snd x.fst)
    #[Value.int IntKind.u8 0, Value.int IntKind.u8 0, Value.int IntKind.u8 0, Value.int IntKind.u8 0, Value.int IntKind.u8 0, Value.int IntKind.u8 0, Value.int IntKind.u8 0, Value.int IntKind.u8 0,
      Value.int IntKind.u8 0, Value.int IntKind.u8 0, Value.int IntKind.u8 0, Value.int IntKind.u8 0, Value.int IntKind.u8 0, Value.int IntKind.u8 0, Value.int IntKind.u8 0, Value.int IntKind.u8 0,
      Value.int IntKind.i64 0] (runC xs t).zipIdx = (runC xs t).toArray := by
  obtain ⟨a0, a1, a2, a3, a4, a5, a6, a7, a8, a9, a10, a11, a12, a13, a14, a15, rfl⟩ := sixteen xs h
  kernel_rfl
theorem runC_one (xs : List Int) (t : Int) : ∀ u ∈ runC xs t, u.oneCell' = true := by
  intro u hu
  rcases List.mem_append.1 hu with h | h
  · exact u8s_one xs u h
  · simp at h; subst h; rfl

set_option maxRecDepth 100000 in
set_option maxHeartbeats 2000000 in
theorem write_first (b o : Nat) (a : Option Addr) (c : Nat) (ys : List Value) (xs : List Int) (w : World) (hx : xs.length = 16) (hc : w.cell? ⟨b, o + 16, none⟩ = some (.slice a 0 c))
    (hf : w.frozen? ⟨b, o + 16, none⟩ = false) (hown : w.ownsRow 0 122 17 (.slice a 0 c) 0 ys) (hne : (Value.slice a 0 c).ownBlock ≠ some b) :
    Calls Try.prog 43 #[.pointer (some ⟨b, o, none⟩), .agg (u8s xs).toArray] w fun e w' => e = .returned (.tuple #[]) ∧
      ∃ g cap n w1, w' = w1.setCell ⟨b, o + 16, none⟩ (.slice (some ⟨g, 0, none⟩) 1 cap) ∧ w1.ownsRow 0 122 17 (.slice (some ⟨g, 0, none⟩) 1 cap) 1 (ys ++ runC xs 1) ∧
       (((w.alloc (.cells (u8s xs).toArray 78)).alloc (.cells (runC xs 1).toArray 122)).drewN n).grownBy w1 (Value.slice a 0 c).ownBlock ∧ ((Value.slice a 0 c).ownBlock = some g ∨ w.heap.size ≤ g) ∧ g < w1.heap.size := by
  have hb : b < w.heap.size := block_lt_of_cell hc
  obtain ⟨i0, hi0, hz0, hz1, hz2⟩ := info_parts info70
  have Hi0 := hd hi0
  have Hx := hd hx
  have e1 := runC_fold hx
  have e2 := runC_len hx 0
  have e3 := runC_set hx 0 1
  have e4 := runC_fold2 hx 1
  have e5 := runC_len hx 1
  have hu := Try.underlying78
  have hi : (Try.prog.info? 78).map (·.size) = some (u8s xs).length := by simp [size56, hx]
  clear hi0
  go_enter Try.func43, Try.ntmps43
  go_wp2_with fail
  go_quiet (fail)
  go_wp2_with fail
  have hN : w.heap.size ≠ b := by omega
  have hnN : (Value.slice a 0 c).ownBlock ≠ some w.heap.size := hown.notNew
  have hS0 : (fun w' : World => w'.cell? ⟨b, o + 16, none⟩ = some (.slice a 0 c) ∧ w'.frozen? ⟨b, o + 16, none⟩ = false ∧ w'.rangeAt w.heap.size 0 (u8s xs)) ((w.alloc (.cells (u8s xs).toArray 78)).drewN (nq + 1)) :=
    ⟨by simpa [World.cell?_alloc_lt, hb] using hc, by simpa [World.frozen?_alloc_past, hb] using hf, rangeAt_new w (u8s xs) 78⟩
  refine wp_region_heldD (fun w' : World => w'.cell? ⟨b, o + 16, none⟩ = some (.slice a 0 c) ∧ w'.frozen? ⟨b, o + 16, none⟩ = false ∧ w'.rangeAt w.heap.size 0 (u8s xs)) (fun j => j == 11) (by kernel_rfl) ?_
  refine wpAnyD_takeL (i := 0) (v := ?_) rfl (by kernel_rfl) (by kernel_rfl) (by kernel_rfl) (by kernel_rfl) (fun _ _ _ h => h) hS0 (Or.inl ⟨by rfl, ?_⟩) ?_
  rotate_left
  · intro w' ⟨hs1, hs2, hs3⟩; go_simp <;> rfl
  simp only [Act.put, List.setIfInBounds_toArray, List.set_cons_zero, List.set_cons_succ]
  refine wpAnyD_takeL (i := 1) (v := ?_) rfl (by kernel_rfl) (by kernel_rfl) (by kernel_rfl) (by kernel_rfl) (fun _ _ _ h => h) hS0 (Or.inl ⟨by rfl, ?_⟩) ?_
  rotate_left
  · intro w' ⟨hs1, hs2, hs3⟩; go_simp <;> rfl
  simp only [Act.put, List.setIfInBounds_toArray, List.set_cons_zero, List.set_cons_succ]
  refine wpAnyD_takeL (i := 2) (v := ?_) rfl (by kernel_rfl) (by kernel_rfl) (by kernel_rfl) (by kernel_rfl) (fun _ _ _ h => h) hS0 (Or.inl ⟨by rfl, ?_⟩) ?_
  rotate_left
  · intro w' ⟨hs1, hs2, hs3⟩; go_simp <;> rfl
  simp only [Act.put, List.setIfInBounds_toArray, List.set_cons_zero, List.set_cons_succ]
  refine wpAnyD_takeL (i := 3) (v := ?_) rfl (by kernel_rfl) (by kernel_rfl) (by kernel_rfl) (by kernel_rfl) (fun _ _ _ h => h) hS0 (Or.inl ⟨by rfl, ?_⟩) ?_
  rotate_left
  · intro w' ⟨hs1, hs2, hs3⟩; go_simp <;> rfl
  simp only [Act.put, List.setIfInBounds_toArray, List.set_cons_zero, List.set_cons_succ]
  refine wpAnyD_takeL (i := 4) (v := ?_) rfl (by kernel_rfl) (by kernel_rfl) (by kernel_rfl) (by kernel_rfl) (fun _ _ _ h => h) hS0 (Or.inl ⟨by rfl, ?_⟩) ?_
  rotate_left
  · intro w' ⟨hs1, hs2, hs3⟩; go_simp <;> rfl
  simp only [Act.put, List.setIfInBounds_toArray, List.set_cons_zero, List.set_cons_succ]
  refine wpAnyD_takeL (i := 5) rfl (by kernel_rfl) (by kernel_rfl) (by kernel_rfl) (by kernel_rfl) (fun _ _ _ h => h) hS0 (yieldsIf_load_mid (by rfl) 78 _ (by rfl) w.heap.size 0 (by rfl) (u8s xs) _ (fun _ h => h.2.2) Try.underlying78 rfl hi) ?_
  simp only [Act.put, List.setIfInBounds_toArray, List.set_cons_zero, List.set_cons_succ]
  refine wpAnyD_takeL (i := 6) (v := ?_) rfl (by kernel_rfl) (by kernel_rfl) (by kernel_rfl) (by kernel_rfl) (fun _ _ _ h => h) hS0 (Or.inl ⟨by rfl, ?_⟩) ?_
  rotate_left
  · intro w' ⟨hs1, hs2, hs3⟩; go_simp <;> rfl
  simp only [Act.put, List.setIfInBounds_toArray, List.set_cons_zero, List.set_cons_succ]
  refine wpAnyD_oneL (i := 7) rfl (by kernel_rfl) rfl (fun K hK => ?_)
  go_simp
  have hS1 : (fun w' : World => w'.cell? ⟨b, o + 16, none⟩ = some (.slice a 0 c) ∧ w'.frozen? ⟨b, o + 16, none⟩ = false ∧ w'.rangeAt w.heap.size 0 (u8s xs)) (((w.alloc (.cells (u8s xs).toArray 78)).alloc (.cells (runC xs 1).toArray 122)).drewN (nq + 1)) :=
    ⟨by simpa [World.cell?_alloc_lt, hb, Nat.lt_succ_of_lt hb] using hc, by simpa [World.frozen?_alloc_past, hb, Nat.lt_succ_of_lt hb] using hf, World.rangeAt_alloc (rangeAt_new w (u8s xs) 78) _⟩
  refine hK _ _ (fun _ => hS1) ?_
  clear hK K
  refine wpAnyD_oneL (i := 8) rfl (by kernel_rfl) rfl (fun K hK => ?_)
  refine wp_append_lies _ _ _ _ (by rfl) 0 122 i0 _ 17 24 Try.underlying79 Hi0.out hz0 hz1 hz2 rfl (by omega) (.slice a 0 c) 0 ys (by rfl) (by exact ((hown.alloc _).alloc _)) ⟨w.heap.size + 1, 0, none⟩ 1 1 (runC xs 1) (by rfl) (by rw [runC_len hx]) (World.news_of_block (cs := (runC xs 1).toArray) (t := 122) (fr := (0, 0)) (heap_alloc2_new w _ _)) (runC_one xs 1) (by omega) (by decide) (by decide) (by simp) _ rfl ?_
  intro gg cap w1 hown1 hgrow hat hlt
  have hlt2 : b < (((w.alloc (.cells (u8s xs).toArray 78)).alloc (.cells (runC xs 1).toArray 122)).drewN (nq + 1)).heap.size := by simp; omega
  have hS2 : (fun w' : World => w'.cell? ⟨b, o + 16, none⟩ = some (.slice a 0 c) ∧ w'.frozen? ⟨b, o + 16, none⟩ = false ∧ w'.rangeAt w.heap.size 0 (u8s xs)) w1 :=
    ⟨by rw [hgrow.cell_far _ hlt2 (Ne.symm hne)]; exact hS1.1, by rw [hgrow.frozen_far _ hlt2 (Ne.symm hne)]; exact hS1.2.1, rangeAt_grown hS1.2.2 hgrow (by simp; omega) (Ne.symm hnN)⟩
  refine hK _ _ (fun _ => hS2) ?_
  clear hK K
  simp only [Act.put, List.setIfInBounds_toArray, List.set_cons_zero, List.set_cons_succ]
  refine wpAnyD_oneL (i := 9) rfl (by kernel_rfl) rfl (fun K hK => ?_)
  go_simp
  refine hK _ _ (fun _ => hS2) ?_
  clear hK K
  refine wpAnyD_oneL (i := 10) rfl (by kernel_rfl) rfl (fun K hK => ?_)
  go_simp
  refine hK _ _ (fun _ => hS2) ?_
  clear hK K
  refine wpAnyD_oneL (i := 11) rfl (by kernel_rfl) rfl (fun K hK => ?_)
  have hs1 := hS2.1
  have hs2 := hS2.2.1
  go_simp
  refine hK _ _ (fun h => by cases h) ?_
  clear hK K
  refine wpAnyD_done (by kernel_rfl) ?_ _
  refine NoPanic.normal ?_
  go_end0
  refine ⟨rfl, gg, cap, nq + 1, w1, rfl, hown1, hgrow, ?_, hlt⟩
  rcases hat with h | h
  · exact .inl h
  · right; rw [h]; simp; omega

set_option maxRecDepth 100000 in
set_option maxHeartbeats 2000000 in
theorem write_diff (b o g k : Nat) (c : Nat) (ys : List Value) (zs xs : List Int) (w : World) (hx : xs.length = 16) (hzl : zs.length = 16) (hneq : zs ≠ xs) (hc : w.cell? ⟨b, o + 16, none⟩ = some (.slice (some ⟨g, 0, none⟩) (k + 1) c))
    (hr : w.rangeAt g (k * 17) (u8s zs)) (hk : (k : Int) ≤ 2199023255552)
    (hf : w.frozen? ⟨b, o + 16, none⟩ = false) (hown : w.ownsRow 0 122 17 (.slice (some ⟨g, 0, none⟩) (k + 1) c) (k + 1) ys) (hne : (Value.slice (some ⟨g, 0, none⟩) (k + 1) c).ownBlock ≠ some b) :
    Calls Try.prog 43 #[.pointer (some ⟨b, o, none⟩), .agg (u8s xs).toArray] w fun e w' => e = .returned (.tuple #[]) ∧
      ∃ g' cap n w1, w' = w1.setCell ⟨b, o + 16, none⟩ (.slice (some ⟨g', 0, none⟩) (k + 1 + 1) cap) ∧ w1.ownsRow 0 122 17 (.slice (some ⟨g', 0, none⟩) (k + 1 + 1) cap) (k + 1 + 1) (ys ++ runC xs 1) ∧
       (((w.alloc (.cells (u8s xs).toArray 78)).alloc (.cells (runC xs 1).toArray 122)).drewN n).grownBy w1 (Value.slice (some ⟨g, 0, none⟩) (k + 1) c).ownBlock ∧ ((Value.slice (some ⟨g, 0, none⟩) (k + 1) c).ownBlock = some g' ∨ w.heap.size ≤ g') ∧ g' < w1.heap.size := by
  have hb : b < w.heap.size := block_lt_of_cell hc
  obtain ⟨i0, hi0, hz0, hz1, hz2⟩ := info_parts info70
  have Hi0 := hd hi0
  have Hx := hd hx
  have Hz := hd hzl
  have Hr := hd hr
  have Hq := hd hneq
  have e1 := runC_fold hx
  have e2 := runC_len hx 0
  have e3 := runC_set hx 0 1
  have e4 := runC_fold2 hx 1
  have e5 := runC_len hx 1
  have hu := Try.underlying78
  have hi : (Try.prog.info? 78).map (·.size) = some (u8s xs).length := by simp [size56, hx]
  clear hi0 hzl hr hneq
  go_enter Try.func43, Try.ntmps43
  go_wp2_with fail
  refine wp_region_quiet_lit (by kernel_rfl) (by kernel_rfl) ?_
  repeat (first
    | go_big_quiet_skip
    | (go_big_quiet_want; refine quiet_load_mid 78 _ (by rfl) g (k * 17) (by rfl) (u8s zs) _ (World.rangeAt_alloc Hr.out _) Try.underlying78 rfl (by simp [size56, Hz.out]) ?_; go_big_quiet_on; simp only [Act.put, List.setIfInBounds_toArray, List.set_cons_succ, List.set_cons_zero])
    | (go_big_quiet_want; refine quiet_load_mid 78 _ (by rfl) w.heap.size 0 (by rfl) (u8s xs) _ (rangeAt_new _ _ _) Try.underlying78 rfl (by simp [size56, Hx.out]) ?_; go_big_quiet_on; simp only [Act.put, List.setIfInBounds_toArray, List.set_cons_succ, List.set_cons_zero])
    | (go_big_quiet_want; refine quiet_eql_ints 78 _ _ _ (by rfl) .u8 zs xs (by rfl) (by rfl) Try.underlying78 Try.underlying5 size5 eqg56 Hz.out Hx.out false (beq_eq_false_iff_ne.2 Hq.out) ?_; go_big_quiet_on; simp only [Act.put, List.setIfInBounds_toArray, List.set_cons_succ, List.set_cons_zero])
    | (go_big_quiet_step (fail)))
  refine wpQuiet_nil ?_
  rintro _ ⟨nq, rfl⟩
  go_wp2_with fail
  have hN : w.heap.size ≠ b := by omega
  have hnN : (Value.slice (some ⟨g, 0, none⟩) (k + 1) c).ownBlock ≠ some w.heap.size := hown.notNew
  have hS0 : (fun w' : World => w'.cell? ⟨b, o + 16, none⟩ = some (.slice (some ⟨g, 0, none⟩) (k + 1) c) ∧ w'.frozen? ⟨b, o + 16, none⟩ = false ∧ w'.rangeAt w.heap.size 0 (u8s xs)) ((w.alloc (.cells (u8s xs).toArray 78)).drewN (nq + 1)) :=
    ⟨by simpa [World.cell?_alloc_lt, hb] using hc, by simpa [World.frozen?_alloc_past, hb] using hf, rangeAt_new w (u8s xs) 78⟩
  refine wp_region_heldD (fun w' : World => w'.cell? ⟨b, o + 16, none⟩ = some (.slice (some ⟨g, 0, none⟩) (k + 1) c) ∧ w'.frozen? ⟨b, o + 16, none⟩ = false ∧ w'.rangeAt w.heap.size 0 (u8s xs)) (fun j => j == 11) (by kernel_rfl) ?_
  refine wpAnyD_takeL (i := 0) (v := ?_) rfl (by kernel_rfl) (by kernel_rfl) (by kernel_rfl) (by kernel_rfl) (fun _ _ _ h => h) hS0 (Or.inl ⟨by rfl, ?_⟩) ?_
  rotate_left
  · intro w' ⟨hs1, hs2, hs3⟩; go_simp <;> rfl
  simp only [Act.put, List.setIfInBounds_toArray, List.set_cons_zero, List.set_cons_succ]
  refine wpAnyD_takeL (i := 1) (v := ?_) rfl (by kernel_rfl) (by kernel_rfl) (by kernel_rfl) (by kernel_rfl) (fun _ _ _ h => h) hS0 (Or.inl ⟨by rfl, ?_⟩) ?_
  rotate_left
  · intro w' ⟨hs1, hs2, hs3⟩; go_simp <;> rfl
  simp only [Act.put, List.setIfInBounds_toArray, List.set_cons_zero, List.set_cons_succ]
  refine wpAnyD_takeL (i := 2) (v := ?_) rfl (by kernel_rfl) (by kernel_rfl) (by kernel_rfl) (by kernel_rfl) (fun _ _ _ h => h) hS0 (Or.inl ⟨by rfl, ?_⟩) ?_
  rotate_left
  · intro w' ⟨hs1, hs2, hs3⟩; go_simp <;> rfl
  simp only [Act.put, List.setIfInBounds_toArray, List.set_cons_zero, List.set_cons_succ]
  refine wpAnyD_takeL (i := 3) (v := ?_) rfl (by kernel_rfl) (by kernel_rfl) (by kernel_rfl) (by kernel_rfl) (fun _ _ _ h => h) hS0 (Or.inl ⟨by rfl, ?_⟩) ?_
  rotate_left
  · intro w' ⟨hs1, hs2, hs3⟩; go_simp <;> rfl
  simp only [Act.put, List.setIfInBounds_toArray, List.set_cons_zero, List.set_cons_succ]
  refine wpAnyD_takeL (i := 4) (v := ?_) rfl (by kernel_rfl) (by kernel_rfl) (by kernel_rfl) (by kernel_rfl) (fun _ _ _ h => h) hS0 (Or.inl ⟨by rfl, ?_⟩) ?_
  rotate_left
  · intro w' ⟨hs1, hs2, hs3⟩; go_simp <;> rfl
  simp only [Act.put, List.setIfInBounds_toArray, List.set_cons_zero, List.set_cons_succ]
  refine wpAnyD_takeL (i := 5) rfl (by kernel_rfl) (by kernel_rfl) (by kernel_rfl) (by kernel_rfl) (fun _ _ _ h => h) hS0 (yieldsIf_load_mid (by rfl) 78 _ (by rfl) w.heap.size 0 (by rfl) (u8s xs) _ (fun _ h => h.2.2) Try.underlying78 rfl hi) ?_
  simp only [Act.put, List.setIfInBounds_toArray, List.set_cons_zero, List.set_cons_succ]
  refine wpAnyD_takeL (i := 6) (v := ?_) rfl (by kernel_rfl) (by kernel_rfl) (by kernel_rfl) (by kernel_rfl) (fun _ _ _ h => h) hS0 (Or.inl ⟨by rfl, ?_⟩) ?_
  rotate_left
  · intro w' ⟨hs1, hs2, hs3⟩; go_simp <;> rfl
  simp only [Act.put, List.setIfInBounds_toArray, List.set_cons_zero, List.set_cons_succ]
  refine wpAnyD_oneL (i := 7) rfl (by kernel_rfl) rfl (fun K hK => ?_)
  go_simp
  have hS1 : (fun w' : World => w'.cell? ⟨b, o + 16, none⟩ = some (.slice (some ⟨g, 0, none⟩) (k + 1) c) ∧ w'.frozen? ⟨b, o + 16, none⟩ = false ∧ w'.rangeAt w.heap.size 0 (u8s xs)) (((w.alloc (.cells (u8s xs).toArray 78)).alloc (.cells (runC xs 1).toArray 122)).drewN (nq + 1)) :=
    ⟨by simpa [World.cell?_alloc_lt, hb, Nat.lt_succ_of_lt hb] using hc, by simpa [World.frozen?_alloc_past, hb, Nat.lt_succ_of_lt hb] using hf, World.rangeAt_alloc (rangeAt_new w (u8s xs) 78) _⟩
  refine hK _ _ (fun _ => hS1) ?_
  clear hK K
  refine wpAnyD_oneL (i := 8) rfl (by kernel_rfl) rfl (fun K hK => ?_)
  refine wp_append_lies _ _ _ _ (by rfl) 0 122 i0 _ 17 24 Try.underlying79 Hi0.out hz0 hz1 hz2 rfl (by omega) (.slice (some ⟨g, 0, none⟩) (k + 1) c) (k + 1) ys (by rfl) (by exact ((hown.alloc _).alloc _)) ⟨w.heap.size + 1, 0, none⟩ 1 1 (runC xs 1) (by rfl) (by rw [runC_len hx]) (World.news_of_block (cs := (runC xs 1).toArray) (t := 122) (fr := (0, 0)) (heap_alloc2_new w _ _)) (runC_one xs 1) (by omega) (by unfold maxLen; omega) (by omega) (by simp) _ rfl ?_
  intro gg cap w1 hown1 hgrow hat hlt
  have hlt2 : b < (((w.alloc (.cells (u8s xs).toArray 78)).alloc (.cells (runC xs 1).toArray 122)).drewN (nq + 1)).heap.size := by simp; omega
  have hS2 : (fun w' : World => w'.cell? ⟨b, o + 16, none⟩ = some (.slice (some ⟨g, 0, none⟩) (k + 1) c) ∧ w'.frozen? ⟨b, o + 16, none⟩ = false ∧ w'.rangeAt w.heap.size 0 (u8s xs)) w1 :=
    ⟨by rw [hgrow.cell_far _ hlt2 (Ne.symm hne)]; exact hS1.1, by rw [hgrow.frozen_far _ hlt2 (Ne.symm hne)]; exact hS1.2.1, rangeAt_grown hS1.2.2 hgrow (by simp; omega) (Ne.symm hnN)⟩
  refine hK _ _ (fun _ => hS2) ?_
  clear hK K
  simp only [Act.put, List.setIfInBounds_toArray, List.set_cons_zero, List.set_cons_succ]
  refine wpAnyD_oneL (i := 9) rfl (by kernel_rfl) rfl (fun K hK => ?_)
  go_simp
  refine hK _ _ (fun _ => hS2) ?_
  clear hK K
  refine wpAnyD_oneL (i := 10) rfl (by kernel_rfl) rfl (fun K hK => ?_)
  go_simp
  refine hK _ _ (fun _ => hS2) ?_
  clear hK K
  refine wpAnyD_oneL (i := 11) rfl (by kernel_rfl) rfl (fun K hK => ?_)
  have hs1 := hS2.1
  have hs2 := hS2.2.1
  go_simp
  refine hK _ _ (fun h => by cases h) ?_
  clear hK K
  refine wpAnyD_done (by kernel_rfl) ?_ _
  refine NoPanic.normal ?_
  go_end0
  refine ⟨rfl, gg, cap, nq + 1, w1, rfl, hown1, hgrow, ?_, hlt⟩
  rcases hat with h | h
  · exact .inl h
  · right; rw [h]; simp; omega
end Go.Proofs.Ytmecbbbopbndmaa
