import Derived.Test.YtmecbbbopbndmaaBase
namespace Go.Proofs.Ytmecbbbopbndmaa
open Go.RowKit

abbrev u8s (xs : List Int) : List Value := xs.map (Value.int .u8)

theorem u8s_one (xs : List Int) : ∀ v ∈ u8s xs, v.oneCell' = true := by
  intro v hv
  obtain ⟨n, _, rfl⟩ := List.mem_map.1 hv
  rfl

set_option maxHeartbeats 400000 in
theorem now_none (b o : Nat) (cap : Nat) (a : Option Addr) (xs : List Int) (w : World) (hr : w.rangeAt b o (u8s xs)) (hl : xs.length = 16) (hc : w.cell? ⟨b, o + 16, none⟩ = some (.slice a 0 cap)) :
    Calls Try.prog 41 #[.pointer (some ⟨b, o, none⟩)] w fun e w' => e = .returned (.agg (u8s xs).toArray) ∧ Below w.heap.size w w' := by
  have hb : b < w.heap.size := block_lt_of_cell hc
  have hz := (zero_of_info info56).1
  have Hl := hd hl
  clear hl
  go_enter Try.func41, Try.ntmps41
  go_wp2_with (first | (refine wpList_load_mid (by rfl) 78 _ (by rfl) b o (by rfl) (u8s xs) _ (by exact World.rangeAt_alloc hr _) Try.underlying78 rfl (by simp [size56, Hl.out]) ?_) | (refine wpList_store_row (by rfl) 78 _ _ (by rfl) w.heap.size (u8s xs).toArray (by rfl) (by rfl) 78 _ (by exact heap_alloc_new _ _) (by simp [size56, Hl.out]) (by simp [Hl.out]) (all_oneCell_toArray (u8s_one xs)) ?_))
  refine bodyPost_ret (v := .agg (u8s xs).toArray) ?_ rfl ⟨rfl, below_newRow _⟩
  exact results_cell_row Try.results41 _ _ w.heap.size 78 (u8s xs).toArray (0, 0) _ (by rfl) (newRow_heap _ _ _ _) Try.underlying78 rfl (by simp [size56, Hl.out])

set_option maxHeartbeats 400000 in
theorem now_some (b o g k : Nat) (cap : Nat) (xs : List Int) (w : World) (hr : w.rangeAt g (k * 17) (u8s xs)) (hl : xs.length = 16) (hc : w.cell? ⟨b, o + 16, none⟩ = some (.slice (some ⟨g, 0, none⟩) (k + 1) cap))
    (hk : (k : Int) ≤ 2305843009213693952) :
    Calls Try.prog 41 #[.pointer (some ⟨b, o, none⟩)] w fun e w' => e = .returned (.agg (u8s xs).toArray) ∧ Below w.heap.size w w' := by
  have hb : b < w.heap.size := block_lt_of_cell hc
  have hz := (zero_of_info info56).1
  have Hl := hd hl
  clear hl
  go_enter Try.func41, Try.ntmps41
  go_wp2_with (first | (refine wpList_load_mid (by rfl) 78 _ (by rfl) g (k * 17) (by rfl) (u8s xs) _ (by exact World.rangeAt_alloc hr _) Try.underlying78 rfl (by simp [size56, Hl.out]) ?_) | (refine wpList_store_row (by rfl) 78 _ _ (by rfl) w.heap.size (u8s xs).toArray (by rfl) (by rfl) 78 _ (by exact heap_alloc_new _ _) (by simp [size56, Hl.out]) (by simp [Hl.out]) (all_oneCell_toArray (u8s_one xs)) ?_))
  refine bodyPost_ret (v := .agg (u8s xs).toArray) ?_ rfl ⟨rfl, below_newRow _⟩
  exact results_cell_row Try.results41 _ _ w.heap.size 78 (u8s xs).toArray (0, 0) _ (by rfl) (newRow_heap _ _ _ _) Try.underlying78 rfl (by simp [size56, Hl.out])

set_option maxHeartbeats 1000000 in
theorem write_same (b o g k cap : Nat) (t : Int) (xs : List Int) (w : World) (hx : xs.length = 16) (hc : w.cell? ⟨b, o + 16, none⟩ = some (.slice (some ⟨g, 0, none⟩) (k + 1) cap))
    (hr : w.rangeAt g (k * 17) (u8s xs)) (ht : w.cell? ⟨g, k * 17 + 16, none⟩ = some (.int .i64 t)) (hf : w.frozen? ⟨g, k * 17 + 16, none⟩ = false)
    (h0 : 0 ≤ t) (h1 : t ≤ 2305843009213693952) (hk : (k : Int) ≤ 2305843009213693952) :
    Calls Try.prog 43 #[.pointer (some ⟨b, o, none⟩), .agg (u8s xs).toArray] w fun e w' => e = .returned (.tuple #[]) ∧
      ∃ n, w' = ((w.alloc (.cells (u8s xs).toArray 78)).drewN n).setCell ⟨g, k * 17 + 16, none⟩ (.int .i64 (t + 1)) := by
  have hb : b < w.heap.size := block_lt_of_cell hc
  have hg : g < w.heap.size := block_lt_of_cell ht
  have Hr := hd hr
  have Hx := hd hx
  clear hx hr
  go_enter Try.func43, Try.ntmps43
  go_wp2_with fail
  refine wp_region_quiet_lit (by kernel_rfl) (by kernel_rfl) ?_
  repeat (first
    | go_big_quiet_skip
    | (go_big_quiet_want; refine quiet_load_mid 78 _ (by rfl) g (k * 17) (by rfl) (u8s xs) _ (World.rangeAt_alloc Hr.out _) Try.underlying78 rfl (by simp [size56, Hx.out]) ?_; go_big_quiet_on; simp only [Act.put, List.setIfInBounds_toArray, List.set_cons_succ, List.set_cons_zero])
    | (go_big_quiet_want; refine quiet_load_mid 78 _ (by rfl) w.heap.size 0 (by rfl) (u8s xs) _ (rangeAt_new _ _ _) Try.underlying78 rfl (by simp [size56, Hx.out]) ?_; go_big_quiet_on; simp only [Act.put, List.setIfInBounds_toArray, List.set_cons_succ, List.set_cons_zero])
    | (go_big_quiet_want; refine quiet_eql_ints 78 _ _ _ (by rfl) .u8 xs xs (by rfl) (by rfl) Try.underlying78 Try.underlying5 size5 eqg56 Hx.out Hx.out true (by simp) ?_; go_big_quiet_on; simp only [Act.put, List.setIfInBounds_toArray, List.set_cons_succ, List.set_cons_zero])
    | (go_big_quiet_step (fail)))
  refine wpQuiet_nil ?_
  rintro _ ⟨nq, rfl⟩
  go_wp2_with fail
  refine bodyPost_ret (results_none rfl _ _ _) rfl ?_
  exact ⟨rfl, nq, rfl⟩

end Go.Proofs.Ytmecbbbopbndmaa
