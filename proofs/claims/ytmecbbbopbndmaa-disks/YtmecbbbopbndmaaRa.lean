import Derived.Test.YtmecbbbopbndmaaSm
namespace Go.Proofs.Ytmecbbbopbndmaa
open Go.RowKit

/-! the document's disk: walks over cells -/
set_option maxHeartbeats 400000 in
theorem rstep_no (b : Nat) (dead : Value) (w : World) (h1 : w.cell? ⟨b, 2, none⟩ = some (.int .i64 0)) (h2 : w.cell? ⟨b, 3, none⟩ = some dead)
    (f2 : w.frozen? ⟨b, 3, none⟩ = false) :
    Calls Try.prog 44 #[.pointer (some ⟨b, 0, none⟩)] w fun e w' => e = .returned (.bool false) ∧ w' = w.setCell ⟨b, 3, none⟩ (.bool true) := by
  go_enter Try.func44, Try.ntmps44
  go_wp2
  go_ret
  exact ⟨rfl, rfl⟩

set_option maxHeartbeats 400000 in
theorem rstep_yes (b : Nat) (fuse : Int) (w : World) (h1 : w.cell? ⟨b, 2, none⟩ = some (.int .i64 fuse)) (hf : fuse ≠ 0) (hb : fuse ≤ 9223372036854775807)
    (f1 : w.frozen? ⟨b, 2, none⟩ = false) :
    Calls Try.prog 44 #[.pointer (some ⟨b, 0, none⟩)] w fun e w' => e = .returned (.bool true) ∧ w' = if 0 < fuse then w.setCell ⟨b, 2, none⟩ (.int .i64 (fuse - 1)) else w := by
  have h0 : (fuse == 0) = false := by simpa using hf
  by_cases hp : 0 < fuse
  · go_enter Try.func44, Try.ntmps44
    go_wp2
    go_ret
    exact ⟨rfl, rfl⟩
  · go_enter Try.func44, Try.ntmps44
    go_wp2
    go_ret
    exact ⟨rfl, rfl⟩

set_option maxHeartbeats 400000 in
theorem rfuse_any (b : Nat) (v : Value) (m : Int) (w : World) (h1 : w.cell? ⟨b, 2, none⟩ = some v) (f1 : w.frozen? ⟨b, 2, none⟩ = false) :
    Calls Try.prog 19 #[.pointer (some ⟨b, 0, none⟩), .int .i64 m] w fun e w' => e = .returned (.tuple #[]) ∧
      w' = if m < 0 then (w.setCell ⟨b, 2, none⟩ (.int .i64 m)).setCell ⟨b, 2, none⟩ (.int .i64 (-1)) else w.setCell ⟨b, 2, none⟩ (.int .i64 m) := by
  by_cases hm : m < 0
  · go_enter Try.func19, Try.ntmps19
    go_wp2_with fail
    go_end0
    exact ⟨rfl, rfl⟩
  · go_enter Try.func19, Try.ntmps19
    go_wp2_with fail
    go_end0
    exact ⟨rfl, rfl⟩

set_option maxHeartbeats 400000 in
theorem rread_dead (b : Nat) (i : Int) (w : World) (h3 : w.cell? ⟨b, 3, none⟩ = some (.bool true)) :
    Calls Try.prog 12 #[.pointer (some ⟨b, 0, none⟩), .int .i64 i] w fun e w' => e = .returned (.tuple #[.string ⟨#[]⟩, .int .i64 2]) ∧ w' = w := by
  go_enter Try.func12, Try.ntmps12
  go_wp2_with fail
  go_ret2
  exact ⟨rfl, rfl⟩

set_option maxHeartbeats 400000 in
theorem rread_range (b : Nat) (i : Int) (v : Option Addr) (n c : Nat) (w : World) (h0 : w.cell? ⟨b, 0, none⟩ = some (.slice v n c)) (h3 : w.cell? ⟨b, 3, none⟩ = some (.bool false)) (hi : i < 0 ∨ (n : Int) ≤ i) :
    Calls Try.prog 12 #[.pointer (some ⟨b, 0, none⟩), .int .i64 i] w fun e w' => e = .returned (.tuple #[.string ⟨#[]⟩, .int .i64 1]) ∧ w' = w := by
  by_cases h : i < 0
  · go_enter Try.func12, Try.ntmps12
    go_wp2_with fail
    go_ret2
    exact ⟨rfl, rfl⟩
  · have h' : (n : Int) ≤ i := by omega
    go_enter Try.func12, Try.ntmps12
    go_wp2_with fail
    go_ret2
    exact ⟨rfl, rfl⟩

set_option maxHeartbeats 400000 in
theorem rread_last (b xl xs i n c c' c'' : Nat) (a : Option Addr) (s : ByteArray) (w : World) (h0 : w.cell? ⟨b, 0, none⟩ = some (.slice (some ⟨xl, 0, none⟩) n c)) (h1 : w.cell? ⟨b, 1, none⟩ = some (.slice (some ⟨xs, 0, none⟩) n c')) (h3 : w.cell? ⟨b, 3, none⟩ = some (.bool false)) (hi : i < n)
    (hv : w.cell? ⟨xs, i, none⟩ = some (.slice a 0 c'')) (hl : w.cell? ⟨xl, i, none⟩ = some (.string s)) :
    Calls Try.prog 12 #[.pointer (some ⟨b, 0, none⟩), .int .i64 (i : Int)] w fun e w' => e = .returned (.tuple #[.string s, .int .i64 0]) ∧ w' = w := by
  have hi' : (i : Int) < n := by omega
  have hi0 : (0 : Int) ≤ i := by omega
  go_enter Try.func12, Try.ntmps12
  go_wp2_with fail
  go_ret2
  exact ⟨rfl, rfl⟩

set_option maxHeartbeats 400000 in
theorem rread_since (b xl xs i n c c' c'' g k : Nat) (s : ByteArray) (w : World) (h0 : w.cell? ⟨b, 0, none⟩ = some (.slice (some ⟨xl, 0, none⟩) n c)) (h1 : w.cell? ⟨b, 1, none⟩ = some (.slice (some ⟨xs, 0, none⟩) n c')) (h3 : w.cell? ⟨b, 3, none⟩ = some (.bool false)) (hi : i < n)
    (hv : w.cell? ⟨xs, i, none⟩ = some (.slice (some ⟨g, 0, none⟩) (k + 1) c'')) (hl : w.cell? ⟨g, k, none⟩ = some (.string s)) (hk : (k : Int) ≤ 2305843009213693952) :
    Calls Try.prog 12 #[.pointer (some ⟨b, 0, none⟩), .int .i64 (i : Int)] w fun e w' => e = .returned (.tuple #[.string s, .int .i64 0]) ∧ w' = w := by
  have hi' : (i : Int) < n := by omega
  have hi0 : (0 : Int) ≤ i := by omega
  go_enter Try.func12, Try.ntmps12
  go_wp2_with fail
  go_ret2
  exact ⟨rfl, rfl⟩

set_option maxHeartbeats 400000 in
theorem settle_zero (b xs i n c' : Nat) (m : Int) (v : Value) (w : World) (h1 : w.cell? ⟨b, 1, none⟩ = some (.slice (some ⟨xs, 0, none⟩) n c')) (hi : i < n) (hm : m ≤ 0)
    (hv : w.cell? ⟨xs, i, none⟩ = some v) (hf : w.frozen? ⟨xs, i, none⟩ = false) :
    Calls Try.prog 46 #[.pointer (some ⟨b, 0, none⟩), .int .i64 (i : Int), .int .i64 m] w fun e w' => e = .returned (.tuple #[]) ∧ w' = w.setCell ⟨xs, i, none⟩ (.slice none 0 0) := by
  have hi' : (i : Int) < n := by omega
  have hi0 : (0 : Int) ≤ i := by omega
  go_enter Try.func46, Try.ntmps46
  go_wp2_with fail
  go_end0
  exact ⟨rfl, rfl⟩

set_option maxRecDepth 100000 in
set_option maxHeartbeats 1000000 in
theorem settle_pos (b xl xs i n c c' c'' g k m : Nat) (s : ByteArray) (v : Value) (w : World) (h0 : w.cell? ⟨b, 0, none⟩ = some (.slice (some ⟨xl, 0, none⟩) n c)) (h1 : w.cell? ⟨b, 1, none⟩ = some (.slice (some ⟨xs, 0, none⟩) n c')) (hi : i < n)
    (hv : w.cell? ⟨xs, i, none⟩ = some (.slice (some ⟨g, 0, none⟩) m c'')) (hk : k < m) (hl : w.cell? ⟨g, k, none⟩ = some (.string s)) (hkb : (k : Int) ≤ 2305843009213693952)
    (hf : w.frozen? ⟨xs, i, none⟩ = false) (hll : w.cell? ⟨xl, i, none⟩ = some v) (hfl : w.frozen? ⟨xl, i, none⟩ = false) (n1 : xl ≠ b) (n2 : xl ≠ xs) (n3 : xl ≠ g) :
    Calls Try.prog 46 #[.pointer (some ⟨b, 0, none⟩), .int .i64 (i : Int), .int .i64 ((k : Int) + 1)] w fun e w' => e = .returned (.tuple #[]) ∧
      ∃ q, w' = ((w.drewN q).setCell ⟨xl, i, none⟩ (.string s)).setCell ⟨xs, i, none⟩ (.slice none 0 0) := by
  have hi' : (i : Int) < n := by omega
  have hi0 : (0 : Int) ≤ i := by omega
  have hk' : (k : Int) < m := by omega
  have hk0 : (0 : Int) ≤ k := by omega
  have hkw : IntKind.i64.wrap (k : Int) = k := by rw [IntKind.wrap_i64]; omega
  go_enter Try.func46, Try.ntmps46
  go_wp2_with fail
  go_region_held3 (fun wx => wx.cell? ⟨b, 0, none⟩ = some (.slice (some ⟨xl, 0, none⟩) n c) ∧ wx.cell? ⟨b, 1, none⟩ = some (.slice (some ⟨xs, 0, none⟩) n c') ∧ wx.cell? ⟨xs, i, none⟩ = some (.slice (some ⟨g, 0, none⟩) m c'') ∧ wx.cell? ⟨g, k, none⟩ = some (.string s))
    (go_keep) (fail)
  go_wp2_with fail
  go_end0
  exact ⟨rfl, 1, rfl⟩

end Go.Proofs.Ytmecbbbopbndmaa
