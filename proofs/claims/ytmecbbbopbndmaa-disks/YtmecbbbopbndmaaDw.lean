import Derived.Test.YtmecbbbopbndmaaRd
namespace Go.Proofs.Ytmecbbbopbndmaa
open Go.RowKit

theorem cells_bi (s : ByteArray) (hs : s.size = 16) : ((s.extract 0 16).data.map fun b => Value.int .u8 (b.toNat : Int)) = (u8s (bi s)).toArray := by
  have : s.extract 0 16 = s := by rw [← hs]; exact ByteArray.extract_zero_size
  rw [this]
  apply Array.toList_inj.1
  simp [u8s, bi]

theorem run_copy_str (s : ByteArray) (hs : s.size = 16) (ty : TypeId) (w : World) :
    (Builtin.copy_ #[86, 9] ty #[.slice (some ⟨w.heap.size, 0, none⟩) 16 16, .string s]).run Try.prog (w.alloc (.cells (Array.replicate 16 (.int .u8 0)) 78)) = .ok (.int .i64 16) (w.alloc (.cells (u8s (bi s)).toArray 78)) := by
  have h1 := run_storeCells_new (P := Try.prog) w 78 (Array.replicate 16 (.int .u8 0)) (u8s (bi s)).toArray (by simp [size56, bi_len, hs]) (by simp [bi_len, hs]) (all_oneCell_toArray (u8s_one _))
  have hsz : ∀ w, (sizeOf 5).run Try.prog w = .ok 1 w := fun w => by kernel_rfl
  unfold Builtin.copy_
  simp only [List.getElem?_toArray, List.getElem?_cons_zero, List.getElem?_cons_succ, Sem.run_bind, run_underlying Try.underlying86, Result.andThen_ok, Builtin.lenOf, Sem.run_pure, hsz, Builtin.firstCells, hs]
  rw [show Nat.min 16 16 = 16 from rfl, cells_bi s hs]
  simp only [h1, Result.andThen_ok]
  rfl

set_option maxHeartbeats 400000 in
theorem dwrite_dead (b : Nat) (i : Int) (s : ByteArray) (w : World) (h2 : w.cell? ⟨b, 2, none⟩ = some (.bool true)) :
    Calls Try.prog 14 #[.pointer (some ⟨b, 0, none⟩), .int .i64 i, .string s] w fun e w' => e = .returned (.int .i64 2) ∧ w' = w := by
  go_enter Try.func14, Try.ntmps14
  go_wp2_with (go_at_call 39; refine (isDead_any _ _ _ h2).mono ?_; rintro e w' ⟨rfl, rfl⟩)
  go_ret
  exact ⟨rfl, rfl⟩

set_option maxHeartbeats 400000 in
theorem dwrite_range (b : Nat) (i : Int) (s : ByteArray) (v : Option Addr) (n c : Nat) (w : World) (h0 : w.cell? ⟨b, 0, none⟩ = some (.slice v n c)) (h2 : w.cell? ⟨b, 2, none⟩ = some (.bool false)) (hi : ¬ (0 ≤ i ∧ i < n)) :
    Calls Try.prog 14 #[.pointer (some ⟨b, 0, none⟩), .int .i64 i, .string s] w fun e w' => e = .returned (.int .i64 1) ∧ w' = w := by
  have Hi := hd hi
  clear hi
  go_enter Try.func14, Try.ntmps14
  go_wp2_with (first
    | (go_at_call 39; refine (isDead_any _ _ _ h2).mono ?_; rintro e w' ⟨rfl, rfl⟩)
    | (go_at_call 40; refine (has_any _ _ _ _ _ _ h0).mono ?_; rintro e w' ⟨rfl, rfl⟩; rw [decide_eq_false Hi.out]))
  go_ret
  exact ⟨rfl, rfl⟩

set_option maxHeartbeats 400000 in
theorem dwrite_len (b : Nat) (i : Int) (s : ByteArray) (v : Option Addr) (n c : Nat) (w : World) (h0 : w.cell? ⟨b, 0, none⟩ = some (.slice v n c)) (h2 : w.cell? ⟨b, 2, none⟩ = some (.bool false)) (hi : (0 ≤ i ∧ i < n)) (hs : s.size ≠ 16) :
    Calls Try.prog 14 #[.pointer (some ⟨b, 0, none⟩), .int .i64 i, .string s] w fun e w' => e = .returned (.int .i64 1) ∧ w' = w := by
  have Hi := hd hi
  have hs' : ((s.size : Int) != 16) = true := by rw [bne_iff_ne]; omega
  clear hi
  go_enter Try.func14, Try.ntmps14
  go_wp2_with (first
    | (go_at_call 39; refine (isDead_any _ _ _ h2).mono ?_; rintro e w' ⟨rfl, rfl⟩)
    | (go_at_call 40; refine (has_any _ _ _ _ _ _ h0).mono ?_; rintro e w' ⟨rfl, rfl⟩; rw [decide_eq_true Hi.out]))
  go_ret
  exact ⟨rfl, rfl⟩

set_option maxHeartbeats 400000 in
theorem dwrite_fuse (b : Nat) (i : Int) (s : ByteArray) (v : Option Addr) (n c : Nat) (w : World) (h0 : w.cell? ⟨b, 0, none⟩ = some (.slice v n c)) (h1 : w.cell? ⟨b, 1, none⟩ = some (.int .i64 0)) (h2 : w.cell? ⟨b, 2, none⟩ = some (.bool false))
    (f2 : w.frozen? ⟨b, 2, none⟩ = false) (hi : (0 ≤ i ∧ i < n)) (hs : s.size = 16) :
    Calls Try.prog 14 #[.pointer (some ⟨b, 0, none⟩), .int .i64 i, .string s] w fun e w' => e = .returned (.int .i64 2) ∧ w' = w.setCell ⟨b, 2, none⟩ (.bool true) := by
  have Hi := hd hi
  have hs' : ((s.size : Int) != 16) = false := by simp [hs]
  clear hi
  go_enter Try.func14, Try.ntmps14
  go_wp2_with (first
    | (go_at_call 39; refine (isDead_any _ _ _ h2).mono ?_; rintro e w' ⟨rfl, rfl⟩)
    | (go_at_call 40; refine (has_any _ _ _ _ _ _ h0).mono ?_; rintro e w' ⟨rfl, rfl⟩; rw [decide_eq_true Hi.out])
    | (go_at_call 42; refine (step_no _ _ _ h1 h2 f2).mono ?_; rintro e w' ⟨rfl, rfl⟩))
  go_ret
  exact ⟨rfl, rfl⟩


set_option maxRecDepth 100000 in
set_option maxHeartbeats 1000000 in
theorem dwrite_ok (b bp i n c : Nat) (s : ByteArray) (fuse : Int) (F : Nat → Prop) (Q : World → Prop) (w w1 : World) (h0 : w.cell? ⟨b, 0, none⟩ = some (.slice (some ⟨bp, 0, none⟩) n c)) (h1 : w.cell? ⟨b, 1, none⟩ = some (.int .i64 fuse)) (h2 : w.cell? ⟨b, 2, none⟩ = some (.bool false))
    (f1 : w.frozen? ⟨b, 1, none⟩ = false) (hi : i < n) (hs : s.size = 16) (hf : fuse ≠ 0) (hfb : fuse ≤ 9223372036854775807) (hw1 : w1 = if 0 < fuse then w.setCell ⟨b, 1, none⟩ (.int .i64 (fuse - 1)) else w)
    (hFb : ¬ F b) (hFn : ∀ k, F k → k < w.heap.size)
    (hwr : ∀ m, Calls Try.prog 43 #[.pointer (some ⟨bp, i * 17, none⟩), .agg (u8s (bi s)).toArray] ((w1.alloc (.cells (u8s (bi s)).toArray 78)).drewN m) fun e w' => e = .returned (.tuple #[]) ∧ Touch F ((w1.alloc (.cells (u8s (bi s)).toArray 78)).drewN m) w' ∧ Q w') :
    Calls Try.prog 14 #[.pointer (some ⟨b, 0, none⟩), .int .i64 (i : Int), .string s] w fun e w' => e = .returned (.int .i64 0) ∧ Touch F (w1.alloc (.cells (u8s (bi s)).toArray 78)) w' ∧ Q w' := by
  have hlt : b < w.heap.size := block_lt_of_cell h0
  have hlt1 : b < w1.heap.size := by rw [hw1]; split <;> simpa using hlt
  have hsz1 : w1.heap.size = w.heap.size := by rw [hw1]; split <;> simp
  have h01 : w1.cell? ⟨b, 0, none⟩ = some (.slice (some ⟨bp, 0, none⟩) n c) := by
    rw [hw1]; split
    · rw [World.cell?_setCell_other _ _ _ _ (by simp)]; exact h0
    · exact h0
  have Hs := hd hs
  have hs' : ((s.size : Int) != 16) = false := by simp [hs]
  have hi' : (i : Int) < n := by omega
  have hi0 : (0 : Int) ≤ (i : Int) := by omega
  have hz := (zero_of_info info56).1
  have hcp := fun ty w => run_copy_str s hs ty w
  have hu := Try.underlying78
  have hi5 : (Try.prog.info? 78).map (·.size) = some (u8s (bi s)).length := by simp [size56, bi_len, hs]
  have Hsz1 := hd hsz1
  have Hw := hd hwr
  have Hw1 := hd hw1
  have HFn := hd hFn
  have Hst := hd (step_yes b fuse w h1 hf hfb f1)
  clear hwr hw1 hFn hs hf hsz1
  go_enter Try.func14, Try.ntmps14
  go_wp2_with (first
    | (go_at_call 39; refine (isDead_any _ _ _ h2).mono ?_; rintro e w' ⟨rfl, rfl⟩)
    | (go_at_call 40; refine (has_any _ _ _ _ _ _ h0).mono ?_; rintro e w' ⟨rfl, rfl⟩; rw [decide_eq_true ⟨hi0, hi'⟩])
    | (go_at_call 42; refine Hst.out.mono ?_; rintro e wS ⟨rfl, hS⟩; rw [← Hw1.out] at hS; replace hS := hS.symm; subst hS))
  have hrg := rangeAt_new w1 (u8s (bi s)) 78
  go_region_held3 (fun wx => wx.cell? ⟨b, 0, none⟩ = some (.slice (some ⟨bp, 0, none⟩) n c) ∧ wx.rangeAt w1.heap.size 0 (u8s (bi s)))
    (first
      | (refine ⟨by simpa [World.cell?_alloc_lt, hlt1] using h01, ?_⟩; exact hrg)
      | (exact ⟨by rw [ht4.cell (a := ⟨b, 0, none⟩) (by simp; omega) hFb]; simpa [World.cell?_alloc_lt, hlt1] using h01, ht4.range hrg (by simp) (fun h => by have h1 := HFn.out _ h; have h2 := Hsz1.out; omega)⟩))
    ((go_at_call 43; refine (Hw.out 1).mono ?_; rintro e w4 ⟨rfl, ht4, hq4⟩))
  go_wp2
  go_ret
  exact ⟨rfl, ⟨ht4.os, ht4.tape, ht4.output, ht4.size, ht4.block⟩, hq4⟩
end Go.Proofs.Ytmecbbbopbndmaa
