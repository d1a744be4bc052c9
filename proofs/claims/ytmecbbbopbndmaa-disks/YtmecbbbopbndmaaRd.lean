import Derived.Test.YtmecbbbopbndmaaKeep
import Derived.Test.YtmecbbbopbndmaaA
namespace Go.Proofs.Ytmecbbbopbndmaa
open Go.RowKit

/-- a text's bytes as numbers. -/
def bi (s : ByteArray) : List Int := s.data.toList.map fun b => (b.toNat : Int)
theorem bi_len (s : ByteArray) : (bi s).length = s.size := by simp [bi]

theorem foldl_push (l : List UInt8) (s : ByteArray) : (l.map fun b => (b.toNat : Int)).foldl (fun r n => r.push (UInt8.ofNat n.toNat)) s = ⟨s.data ++ l.toArray⟩ := by
  induction l generalizing s with
  | nil => simp
  | cons b l ih =>
    simp only [List.map_cons, List.foldl_cons]
    rw [ih]
    congr 1
    simp [ByteArray.push]
theorem bi_back (s : ByteArray) : (bi s).foldl (fun r n => r.push (UInt8.ofNat n.toNat)) ByteArray.empty = s := by
  unfold bi
  rw [foldl_push]
  cases s with | mk d => cases d with | mk l => show (⟨#[] ++ _⟩ : ByteArray) = _; simp

theorem bi_inj {s t : ByteArray} (h : bi s = bi t) : s = t := by rw [← bi_back s, h, bi_back]

theorem conv_new (s : ByteArray) (hs : s.size = 16) (w : World) : (convert 86 9 (.slice (some ⟨w.heap.size, 0, none⟩) 16 16)).run Try.prog (w.alloc (.cells (u8s (bi s)).toArray 78)) = .ok (.string s) (w.alloc (.cells (u8s (bi s)).toArray 78)) := by
  rw [run_convert_bytes_string _ 86 9 5 _ _ _ Try.underlying86 Try.underlying5 Try.underlying9, run_bytesToString (ns := bi s)]
  · rw [bi_back]
  · have := run_loadCells_list (P := Try.prog) (w.alloc (.cells (u8s (bi s)).toArray 78)) ⟨w.heap.size, 0, none⟩ (u8s (bi s)) (fun j v hv => by
      rw [Addr.add_mid]; exact rangeAt_new w (u8s (bi s)) 78 j v hv)
    simpa [bi_len, hs] using this

set_option maxHeartbeats 400000 in
theorem read_dead (b : Nat) (i : Int) (w : World) (h2 : w.cell? ⟨b, 2, none⟩ = some (.bool true)) :
    Calls Try.prog 11 #[.pointer (some ⟨b, 0, none⟩), .int .i64 i] w fun e w' => e = .returned (.tuple #[.string ⟨#[]⟩, .int .i64 2]) ∧ w' = w := by
  go_enter Try.func11, Try.ntmps11
  go_wp2_with (go_at_call 39; refine (isDead_any _ _ _ h2).mono ?_; rintro e w' ⟨rfl, rfl⟩)
  go_ret2
  exact ⟨rfl, rfl⟩

set_option maxHeartbeats 400000 in
theorem read_range (b : Nat) (i : Int) (v : Option Addr) (n c : Nat) (w : World) (h0 : w.cell? ⟨b, 0, none⟩ = some (.slice v n c)) (h2 : w.cell? ⟨b, 2, none⟩ = some (.bool false)) (hi : ¬ (0 ≤ i ∧ i < n)) :
    Calls Try.prog 11 #[.pointer (some ⟨b, 0, none⟩), .int .i64 i] w fun e w' => e = .returned (.tuple #[.string ⟨#[]⟩, .int .i64 1]) ∧ w' = w := by
  have Hi := hd hi
  clear hi
  go_enter Try.func11, Try.ntmps11
  go_wp2_with (first | (go_at_call 39; refine (isDead_any _ _ _ h2).mono ?_; rintro e w' ⟨rfl, rfl⟩) | (go_at_call 40; refine (has_any _ _ _ _ _ _ h0).mono ?_; rintro e w' ⟨rfl, rfl⟩; rw [decide_eq_false Hi.out]))
  go_ret2
  exact ⟨rfl, rfl⟩

set_option maxHeartbeats 400000 in
theorem read_ok (b bp : Nat) (i n c : Nat) (s : ByteArray) (w : World) (h0 : w.cell? ⟨b, 0, none⟩ = some (.slice (some ⟨bp, 0, none⟩) n c)) (h2 : w.cell? ⟨b, 2, none⟩ = some (.bool false)) (hi : i < n) (hs : s.size = 16)
    (hnow : Calls Try.prog 41 #[.pointer (some ⟨bp, i * 17, none⟩)] w fun e w' => e = .returned (.agg (u8s (bi s)).toArray) ∧ Below w.heap.size w w') :
    Calls Try.prog 11 #[.pointer (some ⟨b, 0, none⟩), .int .i64 (i : Int)] w fun e w' => e = .returned (.tuple #[.string s, .int .i64 0]) ∧ Below w.heap.size w w' := by
  have Hn := hd hnow
  have Hl := hd (show (u8s (bi s)).length = 16 by simp [bi_len, hs])
  have hi' : (i : Int) < n := by omega
  have hz := (zero_of_info info56).1
  have hcv := fun w1 => conv_new s hs w1
  clear hnow hs
  go_enter Try.func11, Try.ntmps11
  go_wp2_with (first
    | (go_at_call 39; refine (isDead_any _ _ _ h2).mono ?_; rintro e w' ⟨rfl, rfl⟩)
    | (go_at_call 40; refine (has_any _ _ _ _ _ _ h0).mono ?_; rintro e w' ⟨rfl, rfl⟩; rw [decide_eq_true ⟨by omega, hi'⟩])
    | (go_at_call 41; refine Hn.out.mono ?_; rintro e w1 ⟨rfl, hb1⟩)
    | (refine wpList_store_row (by rfl) 78 _ _ (by rfl) w1.heap.size (u8s (bi s)).toArray (by rfl) (by rfl) 78 _ (by exact heap_alloc_new _ _) (by simp [size56, Hl.out]) (by simp [Hl.out]) (all_oneCell_toArray (u8s_one _)) ?_; rw [World.setRow_alloc_new]))
  go_ret2
  exact ⟨rfl, (hb1.alloc hb1.size _)⟩
end Go.Proofs.Ytmecbbbopbndmaa
