import Derived.Test.YtmecbbbopbndmaaCr
namespace Go.Proofs.Ytmecbbbopbndmaa
open Go.RowKit

set_option maxHeartbeats 400000 in
theorem sync_dead (b : Nat) (w : World) (h2 : w.cell? ⟨b, 2, none⟩ = some (.bool true)) :
    Calls Try.prog 16 #[.pointer (some ⟨b, 0, none⟩)] w fun e w' => e = .returned (.int .i64 2) ∧ w' = w := by
  go_enter Try.func16, Try.ntmps16
  go_wp2_with fail
  go_ret
  exact ⟨rfl, rfl⟩

set_option maxHeartbeats 400000 in
theorem sync_fuse (b : Nat) (w : World) (h1 : w.cell? ⟨b, 1, none⟩ = some (.int .i64 0)) (h2 : w.cell? ⟨b, 2, none⟩ = some (.bool false)) (f2 : w.frozen? ⟨b, 2, none⟩ = false) :
    Calls Try.prog 16 #[.pointer (some ⟨b, 0, none⟩)] w fun e w' => e = .returned (.int .i64 2) ∧ w' = w.setCell ⟨b, 2, none⟩ (.bool true) := by
  go_enter Try.func16, Try.ntmps16
  go_wp2_with (go_at_call 42; refine (step_no _ _ _ h1 h2 f2).mono ?_; rintro e w' ⟨rfl, rfl⟩)
  go_ret
  exact ⟨rfl, rfl⟩

set_option maxHeartbeats 400000 in
theorem fuse_any (b : Nat) (v : Value) (m : Int) (w : World) (h1 : w.cell? ⟨b, 1, none⟩ = some v) (f1 : w.frozen? ⟨b, 1, none⟩ = false) :
    Calls Try.prog 18 #[.pointer (some ⟨b, 0, none⟩), .int .i64 m] w fun e w' => e = .returned (.tuple #[]) ∧ w' = w.setCell ⟨b, 1, none⟩ (.int .i64 m) := by
  go_enter Try.func18, Try.ntmps18
  go_wp2_with fail
  go_end0
  exact ⟨rfl, rfl⟩

set_option maxHeartbeats 400000 in
theorem newDisk_no (m : Int) (w : World) (h : m < 1 ∨ 200 < m) :
    Calls Try.prog 35 #[.int .i64 m] w fun e w' => e = .returned (.tuple #[.pointer none, .int .i64 1]) ∧ w' = w := by
  rcases h with h | h
  · go_enter Try.func35, Try.ntmps35
    go_wp2_with fail
    go_ret2
    exact ⟨rfl, rfl⟩
  · have h' : ¬ m < 1 := by omega
    go_enter Try.func35, Try.ntmps35
    go_wp2_with fail
    go_ret2
    exact ⟨rfl, rfl⟩

theorem info59 : (Try.prog.info? 81).map (fun i => (i.zero, i.size, i.bytes)) = some (some (.agg (Array.replicate 16 (.int .u8 0) ++ #[.slice none 0 0])), 17, 40) := by kernel_rfl

/-- what make lays for the places. -/
def newPlaces (n : Nat) : Array Value := madeCells (Array.replicate 16 (.int .u8 0) ++ #[.slice none 0 0]) (n * 17)

/-- a sector of zeros. -/
def zeroB : ByteArray := ⟨Array.replicate 16 0⟩
theorem zeroB_size : zeroB.size = 16 := by simp [zeroB, ByteArray.size]
theorem zeroB_bi : bi zeroB = List.replicate 16 0 := by simp [bi, zeroB]

theorem run_make60 (n : Nat) (h1 : n ≤ 200) (w : World) : (Instr.makeSlice 82 (.int .i64 (n : Int)) (.int .i64 (n : Int))).run Try.prog w = .ok (.slice (some ⟨w.heap.size, 0, none⟩) n n) (w.alloc (.cells (newPlaces n) 81)) := by
  obtain ⟨i0, hi0, hz0, hz1, hz2⟩ := info_parts info59
  have := run_make (P := Try.prog) w 82 81 i0 _ Try.underlying82 hi0 hz0 .i64 .i64 n n (by omega) (by omega) (by rw [hz2]; omega) (by omega)
  rw [hz1, Int.toNat_natCast] at this
  exact this

theorem newPlaces_get (n k : Nat) (hk : k < n * 17) : (newPlaces n)[k]? = some (pf (fun _ => zeroB) (fun _ => .slice none 0 0) k) := by
  have hs : (Array.replicate 16 (Value.int .u8 0) ++ #[Value.slice none 0 0]).size = 17 := rfl
  unfold newPlaces madeCells
  rw [hs]
  simp only [Array.getElem?_map, Array.getElem?_range, hk, if_true, Option.map_some]
  congr 1
  unfold pf
  have hlt : k % 17 < 17 := Nat.mod_lt _ (by omega)
  generalize k % 17 = r at hlt ⊢
  by_cases h : r = 16
  · subst h; rfl
  · rw [if_neg h]
    simp only [zeroB_bi]
    match r, hlt, h with
    | 0, _, _ | 1, _, _ | 2, _, _ | 3, _, _ | 4, _, _ | 5, _, _ | 6, _, _ | 7, _, _ | 8, _, _ | 9, _, _ | 10, _, _ | 11, _, _ | 12, _, _ | 13, _, _ | 14, _, _ | 15, _, _ => rfl
    | 16, _, h => exact absurd rfl h
    | m + 17, hlt, _ => exact absurd hlt (by omega)

set_option maxHeartbeats 400000 in
theorem newDisk_walk (n : Nat) (w : World) (h0 : 1 ≤ n) (h1 : n ≤ 200) :
    Calls Try.prog 35 #[.int .i64 (n : Int)] w fun e w' => e = .returned (.tuple #[.pointer (some ⟨w.heap.size + 1, 0, none⟩), .int .i64 0]) ∧
      w' = (w.alloc (.cells (newPlaces n) 81)).alloc (.cells #[.slice (some ⟨w.heap.size, 0, none⟩) n n, .int .i64 (-1), .bool false] 84) := by
  have hmk := fun w => run_make60 n h1 w
  have h0' : (1 : Int) ≤ n := by omega
  have h1' : (n : Int) ≤ 200 := by omega
  go_enter Try.func35, Try.ntmps35
  go_wp2_with fail
  go_ret2
  exact ⟨rfl, rfl⟩

theorem newDisk_yes (n : Nat) (w : World) (h0 : 1 ≤ n) (h1 : n ≤ 200) :
    Calls Try.prog 35 #[.int .i64 (n : Int)] w fun e w' => e = .returned (.tuple #[.pointer (some ⟨w.heap.size + 1, 0, none⟩), .int .i64 0]) ∧ Touch (fun _ => False) w w' ∧
      w'.heap.size = w.heap.size + 2 ∧ PD w' (w.heap.size + 1) w.heap.size n (-1) false 0 (fun _ => zeroB) (fun _ => []) (fun _ => .slice none 0 0) := by
  refine (newDisk_walk n w h0 h1).mono ?_
  rintro e w' ⟨he, rfl⟩
  refine ⟨he, ((Touch.refl _ w).alloc _).alloc _, by simp, ?_⟩
  exact
    { disk := by
        have := World.rowIs_alloc (w.alloc (.cells (newPlaces n) 81)) #[.slice (some ⟨w.heap.size, 0, none⟩) n n, .int .i64 (-1), .bool false] 84 (fun i => if i = 0 then .slice (some ⟨w.heap.size, 0, none⟩) n n else if i = 1 then .int .i64 (-1) else .bool false) (fun i hi => by
          match i, hi with
          | 0, _ => rfl
          | 1, _ => rfl
          | 2, _ => rfl)
        simpa using this
      row := by
        have := (World.rowIs_alloc w (newPlaces n) 81 (pf (fun _ => zeroB) (fun _ => .slice none 0 0)) (fun i hi => newPlaces_get n i (by simpa [newPlaces, size_madeCells] using hi))).alloc (.cells #[.slice (some ⟨w.heap.size, 0, none⟩) n n, .int .i64 (-1), .bool false] 84)
        rw [show (newPlaces n).size = n * 17 from by simp [newPlaces, size_madeCells]] at this
        exact this
      own := fun i _ => by simpa [runsC] using World.ownsRow_nil _ 0 122 17
      len := fun _ _ => zeroB_size
      good := fun _ _ r hr => by cases hr
      tots := fun _ _ => by simp [tot]
      ne := by omega
      ap1 := fun _ _ => by simp [Value.ownBlock]
      ap2 := fun _ _ _ _ _ g hg => by simp [Value.ownBlock] at hg
      fuse0 := by decide
      fuse1 := by decide }

end Go.Proofs.Ytmecbbbopbndmaa
