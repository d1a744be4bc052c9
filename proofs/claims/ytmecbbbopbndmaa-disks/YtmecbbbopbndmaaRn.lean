import Derived.Test.YtmecbbbopbndmaaRc
namespace Go.Proofs.Ytmecbbbopbndmaa
open Go.RowKit

theorem info5 : (Try.prog.info? 5).map (fun i => (i.zero, i.size, i.bytes)) = some (some (.int .u8 0), 1, 1) := by kernel_rfl
theorem info44 : (Try.prog.info? 44).map (fun i => (i.zero, i.size, i.bytes)) = some (some (.slice none 0 0), 1, 24) := by kernel_rfl

theorem run_make64 (w : World) : (Instr.makeSlice 86 (.int .i64 16) (.int .i64 16)).run Try.prog w = .ok (.slice (some ⟨w.heap.size, 0, none⟩) 16 16) (w.alloc (.cells (u8s (bi zeroB)).toArray 5)) := by
  have := run_make_row' (P := Try.prog) 86 5 (.int .u8 0) 1 Try.underlying86 info5 rfl .i64 .i64 16 (by decide) (by decide) w
  have hm : madeCells #[Value.int .u8 0] 16 = (u8s (bi zeroB)).toArray := by
    apply Array.toList_inj.1
    rw [toList_madeCells_one, zeroB_bi]; rfl
  rw [hm] at this
  exact this

theorem conv_zero (w : World) : (convert 86 9 (.slice (some ⟨w.heap.size, 0, none⟩) 16 16)).run Try.prog (w.alloc (.cells (u8s (bi zeroB)).toArray 5)) = .ok (.string zeroB) (w.alloc (.cells (u8s (bi zeroB)).toArray 5)) := by
  rw [run_convert_bytes_string _ 86 9 5 _ _ _ Try.underlying86 Try.underlying5 Try.underlying9, run_bytesToString (ns := bi zeroB)]
  · rw [bi_back]
  · have := run_loadCells_list (P := Try.prog) (w.alloc (.cells (u8s (bi zeroB)).toArray 5)) ⟨w.heap.size, 0, none⟩ (u8s (bi zeroB)) (fun j v hv => by
      rw [Addr.add_mid]; exact rangeAt_new w (u8s (bi zeroB)) 5 j v hv)
    simpa [bi_len, zeroB_size] using this

set_option maxHeartbeats 400000 in
theorem zeros_any (w : World) : Calls Try.prog 69 #[] w fun e w' => e = .returned (.string zeroB) ∧ Below w.heap.size w w' := by
  have hmk := run_make64
  have hcv := conv_zero
  go_enter Try.func69, Try.ntmps69
  go_wp2_with fail
  go_ret
  exact ⟨rfl, (Below.refl _ _).alloc (Nat.le_refl _) _⟩

set_option maxHeartbeats 400000 in
theorem rnew_no (m : Int) (w : World) (h : m < 1 ∨ 200 < m) :
    Calls Try.prog 37 #[.int .i64 m] w fun e w' => e = .returned (.tuple #[.pointer none, .int .i64 1]) ∧ w' = w := by
  rcases h with h | h
  · go_enter Try.func37, Try.ntmps37
    go_wp2_with fail
    go_ret2
    exact ⟨rfl, rfl⟩
  · have h' : ¬ m < 1 := by omega
    go_enter Try.func37, Try.ntmps37
    go_wp2_with fail
    go_ret2
    exact ⟨rfl, rfl⟩

/-- the document's disk while it is made. -/
structure RN (w wr : World) (j : Nat) (lv sv : Value) : Prop where
  disk : wr.rowIs w.heap.size 47 4 (fun i => if i = 0 then lv else if i = 1 then sv else if i = 2 then .int .i64 (-1) else .bool false)
  ol : wr.ownsRow (w.heap.size + 1) 9 1 lv j (List.replicate j (.string zeroB))
  os : wr.ownsRow (w.heap.size + 1) 44 1 sv j (List.replicate j (.slice none 0 0))
  ap : ∀ g, lv.ownBlock = some g → sv.ownBlock ≠ some g
  bl : Below w.heap.size w wr

theorem own_base {w : World} {base : Nat} {e : TypeId} {size : Nat} {v : Value} {n : Nat} {xs : List Value} (h : w.ownsRow base e size v n xs) {g : Nat} (hg : v.ownBlock = some g) : base ≤ g := by
  rcases h.2 with ⟨rfl, _⟩ | ⟨g', cap, cur, rfl, hb, _⟩
  · simp [Value.ownBlock] at hg
  · have : g' = g := by simpa [Value.ownBlock] using hg
    omega

theorem RN.c0 {w wr : World} {j : Nat} {lv sv : Value} (h : RN w wr j lv sv) : wr.cell? ⟨w.heap.size, 0, none⟩ = some lv := h.disk.cell (i := 0) (by omega)
theorem RN.c1 {w wr : World} {j : Nat} {lv sv : Value} (h : RN w wr j lv sv) : wr.cell? ⟨w.heap.size, 1, none⟩ = some sv := h.disk.cell (i := 1) (by omega)

/-- Lasting has grown by one. -/
theorem RN.first {w wr w2 : World} {j : Nat} {lv sv lv' : Value} (h : RN w wr j lv sv) {A : World} {m : Nat} (hA : Below wr.heap.size wr A) (hg : (A.drewN m).grownBy w2 lv.ownBlock)
    (ho : w2.ownsRow (w.heap.size + 1) 9 1 lv' (j + 1) (List.replicate j (.string zeroB) ++ [.string zeroB])) (hb : ∀ g, lv'.ownBlock = some g → lv.ownBlock = some g ∨ wr.heap.size ≤ g) :
    (w2.setCell ⟨w.heap.size, 0, none⟩ lv').rowIs w.heap.size 47 4 (fun i => if i = 0 then lv' else if i = 1 then sv else if i = 2 then .int .i64 (-1) else .bool false) ∧
    (w2.setCell ⟨w.heap.size, 0, none⟩ lv').ownsRow (w.heap.size + 1) 9 1 lv' (j + 1) (List.replicate (j + 1) (.string zeroB)) ∧
    (w2.setCell ⟨w.heap.size, 0, none⟩ lv').ownsRow (w.heap.size + 1) 44 1 sv j (List.replicate j (.slice none 0 0)) ∧
    (∀ g, lv'.ownBlock = some g → sv.ownBlock ≠ some g) ∧ Below w.heap.size w (w2.setCell ⟨w.heap.size, 0, none⟩ lv') := by
  have hlt := h.disk.lt
  have t : ∀ k, k < wr.heap.size → lv.ownBlock ≠ some k → w2.heap[k]? = wr.heap[k]? := fun k hk hne => by
    rw [hg.block k (Nat.lt_of_lt_of_le hk hA.size) (fun e => hne e.symm)]
    exact hA.block k hk
  have hne0 : lv.ownBlock ≠ some w.heap.size := fun e => by have := own_base h.ol e; omega
  refine ⟨?_, ?_, ?_, ?_, ?_⟩
  · refine World.rowIs.congr ((h.disk.of_block (t _ hlt hne0)).set 0 lv') (fun i hi => ?_)
    match i, hi with
    | 0, _ => rfl
    | 1, _ => rfl
    | 2, _ => rfl
    | 3, _ => rfl
  · rw [List.replicate_succ']
    exact ownsRow_of_block ho (fun g hg' => Below.heap_setCell _ _ _ _ (fun e => by have := own_base ho hg'; simp at e; omega))
  · refine ownsRow_of_block h.os (fun g hg' => ?_)
    rw [Below.heap_setCell _ _ _ _ (fun e => by have := own_base h.os hg'; simp at e; omega)]
    exact t g (ownsRow_lt h.os hg') (fun e => h.ap g e hg')
  · intro g hg' e
    rcases hb g hg' with e1 | e1
    · exact h.ap g e1 e
    · have := ownsRow_lt h.os e; omega
  · have hs : wr.heap.size ≤ A.heap.size := hA.size
    have hb1 := h.bl.size
    have h1 : Below w.heap.size w w2 := ((h.bl.trans (hA.mono hb1)).trans ⟨rfl, rfl, rfl, Nat.le_refl _, fun _ _ => rfl⟩ : Below w.heap.size w (A.drewN m)).grown hg (by show w.heap.size ≤ A.heap.size; omega) (fun k hk => by have := own_base h.ol hk; omega)
    exact h1.setCell (Nat.le_refl _) _

/-- Since has grown by one. -/
theorem RN.second {w wr w2 : World} {j : Nat} {lv sv sv' : Value} {B : Obj} (hd0 : wr.rowIs w.heap.size 47 4 (fun i => if i = 0 then lv else if i = 1 then sv else if i = 2 then .int .i64 (-1) else .bool false))
    (hol : wr.ownsRow (w.heap.size + 1) 9 1 lv (j + 1) (List.replicate (j + 1) (.string zeroB))) (hos : wr.ownsRow (w.heap.size + 1) 44 1 sv j (List.replicate j (.slice none 0 0)))
    (hap : ∀ g, lv.ownBlock = some g → sv.ownBlock ≠ some g) (hbl : Below w.heap.size w wr) (hg : (wr.alloc B).grownBy w2 sv.ownBlock)
    (ho : w2.ownsRow (w.heap.size + 1) 44 1 sv' (j + 1) (List.replicate j (.slice none 0 0) ++ [.slice none 0 0])) (hb : ∀ g, sv'.ownBlock = some g → sv.ownBlock = some g ∨ wr.heap.size ≤ g) :
    RN w (w2.setCell ⟨w.heap.size, 1, none⟩ sv') (j + 1) lv sv' := by
  have hlt := hd0.lt
  have t : ∀ k, k < wr.heap.size → sv.ownBlock ≠ some k → w2.heap[k]? = wr.heap[k]? := fun k hk hne => by
    rw [hg.block k (by simp; omega) (fun e => hne e.symm)]
    exact Below.heap_alloc _ _ _ hk
  have hne0 : sv.ownBlock ≠ some w.heap.size := fun e => by have := own_base hos e; omega
  refine ⟨?_, ?_, ?_, ?_, ?_⟩
  · refine World.rowIs.congr ((hd0.of_block (t _ hlt hne0)).set 1 sv') (fun i hi => ?_)
    match i, hi with
    | 0, _ => rfl
    | 1, _ => rfl
    | 2, _ => rfl
    | 3, _ => rfl
  · refine ownsRow_of_block hol (fun g hg' => ?_)
    rw [Below.heap_setCell _ _ _ _ (fun e => by have := own_base hol hg'; simp at e; omega)]
    exact t g (ownsRow_lt hol hg') (fun e => hap g hg' e)
  · rw [List.replicate_succ']
    exact ownsRow_of_block ho (fun g hg' => Below.heap_setCell _ _ _ _ (fun e => by have := own_base ho hg'; simp at e; omega))
  · intro g hg' e
    rcases hb g e with e1 | e1
    · exact hap g hg' e1
    · have := ownsRow_lt hol hg'; omega
  · have hb1 := hbl.size
    have h1 : Below w.heap.size w w2 := (hbl.alloc hb1 B).grown hg (by simp; omega) (fun k hk => by have := own_base hos hk; omega)
    exact h1.setCell (Nat.le_refl _) _

set_option maxRecDepth 100000 in
set_option maxHeartbeats 2000000 in
theorem rnew_walk (n : Nat) (w : World) (h0 : 1 ≤ n) (h1 : n ≤ 200) :
    Calls Try.prog 37 #[.int .i64 (n : Int)] w fun e w' => e = .returned (.tuple #[.pointer (some ⟨w.heap.size, 0, none⟩), .int .i64 0]) ∧ ∃ lv sv, RN w w' n lv sv := by
  have h0' : (1 : Int) ≤ n := by omega
  have h1' : (n : Int) ≤ 200 := by omega
  obtain ⟨i9, hi9, hz90, hz91, hz92⟩ := info_parts info9
  obtain ⟨i4, hi4, hz40, hz41, hz42⟩ := info_parts info44
  have Hi9 := hd hi9
  have Hi4 := hd hi4
  clear hi9 hi4
  go_enter Try.func37, Try.ntmps37
  go_wp2_with fail
  go_loopg [5] n (fun k s5 wr => ∃ (j : Nat) (lv sv : Value), j + k = n ∧ s5 = .int .i64 j ∧ RN w wr j lv sv)
  case atStart =>
    refine ⟨0, .slice none 0 0, .slice none 0 0, by simp, rfl, ?_, World.ownsRow_nil _ _ _ _, World.ownsRow_nil _ _ _ _, fun g hg => by simp [Value.ownBlock] at hg, (Below.refl _ _).alloc (Nat.le_refl _) _⟩
    exact World.rowIs_alloc w _ 47 _ (fun i hi => by
      match i, hi with
      | 0, _ => rfl
      | 1, _ => rfl
      | 2, _ => rfl
      | 3, _ => rfl)
  case round =>
    obtain ⟨j, lv, sv, hj, rfl, hr⟩ := hrel
    have Hr := hd hr
    have hc0 := hr.c0
    have hf0 := hr.disk.frozen 0
    have hdlt := hr.disk.lt
    clear hr
    by_cases hlt : j < n
    · have hlt' : (j : Int) < n := by omega
      have hne0 : lv.ownBlock ≠ some w.heap.size := fun e => by have := own_base Hr.out.ol e; omega
      have Hne0 := hd hne0
      clear hne0
      go_wp2_with fail
      have hS0 : (fun wx : World => wx.cell? ⟨w.heap.size, 0, none⟩ = some lv ∧ wx.frozen? ⟨w.heap.size, 0, none⟩ = false) wr.drew := ⟨hc0, hf0⟩
      refine wp_region_heldD (fun wx : World => wx.cell? ⟨w.heap.size, 0, none⟩ = some lv ∧ wx.frozen? ⟨w.heap.size, 0, none⟩ = false) (fun j => j == 10) (by kernel_rfl) ?_
      refine wpAnyD_takeL (i := 0) (v := ?_) rfl (by kernel_rfl) (by kernel_rfl) (by kernel_rfl) (by kernel_rfl) (fun _ _ _ h => h) hS0 (Or.inl ⟨by rfl, ?_⟩) ?_
      rotate_left
      · intro w' ⟨hs1, hs2⟩; go_simp <;> rfl
      simp only [Act.put, List.setIfInBounds_toArray, List.set_cons_zero, List.set_cons_succ]
      refine wpAnyD_takeL (i := 1) (v := ?_) rfl (by kernel_rfl) (by kernel_rfl) (by kernel_rfl) (by kernel_rfl) (fun _ _ _ h => h) hS0 (Or.inl ⟨by rfl, ?_⟩) ?_
      rotate_left
      · intro w' ⟨hs1, hs2⟩; go_simp <;> rfl
      simp only [Act.put, List.setIfInBounds_toArray, List.set_cons_zero, List.set_cons_succ]
      refine wpAnyD_takeL (i := 2) (v := ?_) rfl (by kernel_rfl) (by kernel_rfl) (by kernel_rfl) (by kernel_rfl) (fun _ _ _ h => h) hS0 (Or.inl ⟨by rfl, ?_⟩) ?_
      rotate_left
      · intro w' ⟨hs1, hs2⟩; go_simp <;> rfl
      simp only [Act.put, List.setIfInBounds_toArray, List.set_cons_zero, List.set_cons_succ]
      refine wpAnyD_takeL (i := 3) (v := ?_) rfl (by kernel_rfl) (by kernel_rfl) (by kernel_rfl) (by kernel_rfl) (fun _ _ _ h => h) hS0 (Or.inl ⟨by rfl, ?_⟩) ?_
      rotate_left
      · intro w' ⟨hs1, hs2⟩; go_simp <;> rfl
      simp only [Act.put, List.setIfInBounds_toArray, List.set_cons_zero, List.set_cons_succ]
      refine wpAnyD_takeL (i := 4) (v := ?_) rfl (by kernel_rfl) (by kernel_rfl) (by kernel_rfl) (by kernel_rfl) (fun _ _ _ h => h) hS0 (Or.inl ⟨by rfl, ?_⟩) ?_
      rotate_left
      · intro w' ⟨hs1, hs2⟩; go_simp <;> rfl
      simp only [Act.put, List.setIfInBounds_toArray, List.set_cons_zero, List.set_cons_succ]
      refine wpAnyD_oneL (i := 5) rfl (by kernel_rfl) rfl (fun K hK => ?_)
      go_simp
      refine (zeros_any _).mono ?_
      rintro e wa ⟨rfl, hba⟩
      have hba' : Below wr.heap.size wr wa := ⟨hba.os, hba.tape, hba.output, hba.size, hba.block⟩
      have hS1 : (fun wx : World => wx.cell? ⟨w.heap.size, 0, none⟩ = some lv ∧ wx.frozen? ⟨w.heap.size, 0, none⟩ = false) wa := ⟨by rw [hba'.cell hdlt]; exact hc0, by rw [hba'.frozen hdlt]; exact hf0⟩
      refine hK _ _ (fun _ => hS1) ?_
      clear hK K hba
      refine wpAnyD_oneL (i := 6) rfl (by kernel_rfl) rfl (fun K hK => ?_)
      go_simp
      have hwa : w.heap.size < wa.heap.size := Nat.lt_of_lt_of_le hdlt hba'.size
      have hS2 : (fun wx : World => wx.cell? ⟨w.heap.size, 0, none⟩ = some lv ∧ wx.frozen? ⟨w.heap.size, 0, none⟩ = false) (wa.alloc (.cells #[.string zeroB] 9)) := ⟨by rw [World.cell?_alloc_lt _ _ _ hwa]; exact hS1.1, by rw [World.frozen?_alloc_past _ _ _ hwa]; exact hS1.2⟩
      refine hK _ _ (fun _ => hS2) ?_
      clear hK K
      refine wpAnyD_oneL (i := 7) rfl (by kernel_rfl) rfl (fun K hK => ?_)
      have hbA : Below wr.heap.size wr (wa.alloc (.cells #[.string zeroB] 9)) := hba'.alloc hba'.size _
      have hown := ownsRow_of_block (w' := wa.alloc (.cells #[.string zeroB] 9)) Hr.out.ol (fun g hg => hbA.block g (ownsRow_lt Hr.out.ol hg))
      refine wp_append_lies _ _ _ _ (by rfl) (w.heap.size + 1) 9 i9 _ 1 16 Try.underlying44 Hi9.out hz90 hz91 hz92 rfl (by omega) lv j (List.replicate j (.string zeroB)) (by rfl) hown ⟨wa.heap.size, 0, none⟩ 1 1 [.string zeroB] (by rfl) (by rfl) (World.news_of_block (cs := #[.string zeroB]) (t := 9) (fr := (0, 0)) (heap_alloc_new wa _)) (by simp [Value.oneCell']) (by omega) (by unfold maxLen; omega) (by omega) (by simp; omega) _ rfl ?_
      intro gg cap w2 hown1 hgrow hat hgl
      have hb1 : w.heap.size < (wa.alloc (.cells #[.string zeroB] 9)).heap.size := by simp; omega
      have hS3 : (fun wx : World => wx.cell? ⟨w.heap.size, 0, none⟩ = some lv ∧ wx.frozen? ⟨w.heap.size, 0, none⟩ = false) w2 := ⟨by rw [hgrow.cell_far _ hb1 (Ne.symm Hne0.out)]; exact hS2.1, by rw [hgrow.frozen_far _ hb1 (Ne.symm Hne0.out)]; exact hS2.2⟩
      refine hK _ _ (fun _ => hS3) ?_
      clear hK K
      simp only [Act.put, List.setIfInBounds_toArray, List.set_cons_zero, List.set_cons_succ]
      refine wpAnyD_oneL (i := 8) rfl (by kernel_rfl) rfl (fun K hK => ?_)
      go_simp
      refine hK _ _ (fun _ => hS3) ?_
      clear hK K
      refine wpAnyD_oneL (i := 9) rfl (by kernel_rfl) rfl (fun K hK => ?_)
      go_simp
      refine hK _ _ (fun _ => hS3) ?_
      clear hK K
      refine wpAnyD_oneL (i := 10) rfl (by kernel_rfl) rfl (fun K hK => ?_)
      have hs1 := hS3.1
      have hs2 := hS3.2
      go_simp
      refine hK _ _ (fun h => by cases h) ?_
      clear hK K
      refine wpAnyD_done (by kernel_rfl) ?_ _
      refine NoPanic.normal ?_
      have hbg : ∀ g, (Value.slice (some ⟨gg, 0, none⟩) (j + 1) cap).ownBlock = some g → lv.ownBlock = some g ∨ wr.heap.size ≤ g := by
        intro g hg
        have : gg = g := by simpa [Value.ownBlock] using hg
        subst this
        rcases hat with e | e
        · exact .inl e
        · right; rw [e]; have := hba'.size; simp; omega
      obtain ⟨q1, q2, q3, q4, q5⟩ := Hr.out.first (m := 0) hbA hgrow hown1 hbg
      generalize hw3 : w2.setCell ⟨w.heap.size, 0, none⟩ (.slice (some ⟨gg, 0, none⟩) (j + 1) cap) = w3 at *
      have hd1 := q1.cell (i := 1) (by omega)
      have hf1 := q1.frozen 1
      have hd1lt := q1.lt
      simp only at hd1
      have Q := hd (And.intro q1 (And.intro q2 (And.intro q3 (And.intro q4 q5))))
      clear q1 q2 q3 q4 q5 hs1 hs2 hS0 hS1 hS2 hS3 hown hown1 hgrow hat hbg hw3
      have hsne : sv.ownBlock ≠ some w.heap.size := fun e => by have := own_base Q.out.2.2.1 e; omega
      have Hsne := hd hsne
      clear hsne
      go_wp2_with (at_builtin; refine wpList_append_lies _ rfl _ _ _ rfl (w.heap.size + 1) 44 i4 _ 1 24 Try.underlying45 Hi4.out hz40 hz41 hz42 rfl (by omega) sv j (List.replicate j (.slice none 0 0)) (by rfl) (Q.out.2.2.1.alloc _) ⟨w3.heap.size, 0, none⟩ 1 1 [.slice none 0 0] (by rfl) (by rfl) (World.news_of_block (cs := #[.slice none 0 0]) (t := 44) (fr := (0, 0)) (heap_alloc_new w3 _)) (by simp [Value.oneCell']) (by omega) (by unfold maxLen; omega) (by omega) (by simp; omega) _ rfl ?_; intro g2 cap2 w4 ho4 hg4 hat4 hl4; have hc4 : w4.cell? ⟨w.heap.size, 1, none⟩ = some sv := (by rw [hg4.cell_far _ (by simp; omega) (Ne.symm Hsne.out), World.cell?_alloc_lt _ _ _ hd1lt]; exact hd1); have hf4 : w4.frozen? ⟨w.heap.size, 1, none⟩ = false := (by rw [hg4.frozen_far _ (by simp; omega) (Ne.symm Hsne.out), World.frozen?_alloc_past _ _ _ hd1lt]; exact hf1))
      go_roundg (gk - 1)
      case measure => omega
      case rel =>
        obtain ⟨q1, q2, q3, q4, q5⟩ := Q.out
        refine ⟨j + 1, _, _, by omega, by go_num, RN.second q1 q2 q3 q4 q5 hg4 ho4 (fun g hg => ?_)⟩
        have : g2 = g := by simpa [Value.ownBlock] using hg
        subst this
        rcases hat4 with e | e
        · exact .inl e
        · right; rw [e]; simp
    · go_wp2_with fail
      go_ret2
      obtain rfl : j = n := by omega
      exact ⟨rfl, lv, sv, Hr.out⟩
end Go.Proofs.Ytmecbbbopbndmaa
