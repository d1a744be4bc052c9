import Derived.Test.YtmecbbbopbndmaaRows
import Derived.WalkKit
import Derived.WalkSpells
import Derived.WalkLawsBesides
namespace Go.Proofs.Ytmecbbbopbndmaa
open Go.RowKit

set_option maxHeartbeats 400000 in
theorem num_any (k : Int) (w : World) : Calls Try.prog 13 #[.int .i64 k] w fun e w' => e = .returned (.int .i64 k) ∧ w' = w := by
  go_enter Try.func13, Try.ntmps13
  go_wp2
  go_ret
  exact ⟨rfl, rfl⟩

set_option maxHeartbeats 400000 in
theorem sectors_any (b : Nat) (v : Option Addr) (n c : Nat) (w : World) (h0 : w.cell? ⟨b, 0, none⟩ = some (.slice v n c)) :
    Calls Try.prog 38 #[.pointer (some ⟨b, 0, none⟩)] w fun e w' => e = .returned (.int .i64 n) ∧ w' = w := by
  go_enter Try.func38, Try.ntmps38
  go_wp2
  go_ret
  exact ⟨rfl, rfl⟩

set_option maxHeartbeats 400000 in
theorem isDead_any (b : Nat) (dead : Bool) (w : World) (h0 : w.cell? ⟨b, 2, none⟩ = some (.bool dead)) :
    Calls Try.prog 39 #[.pointer (some ⟨b, 0, none⟩)] w fun e w' => e = .returned (.bool dead) ∧ w' = w := by
  go_enter Try.func39, Try.ntmps39
  go_wp2
  go_ret
  exact ⟨rfl, rfl⟩


set_option maxHeartbeats 400000 in
theorem has_any (b : Nat) (i : Int) (v : Option Addr) (n c : Nat) (w : World) (h0 : w.cell? ⟨b, 0, none⟩ = some (.slice v n c)) :
    Calls Try.prog 40 #[.pointer (some ⟨b, 0, none⟩), .int .i64 i] w fun e w' => e = .returned (.bool (decide (0 ≤ i ∧ i < n))) ∧ w' = w := by
  by_cases h : 0 ≤ i
  · go_enter Try.func40, Try.ntmps40
    go_wp2_with (go_at_call 38; refine (sectors_any _ _ _ _ _ (by assumption)).mono ?_; rintro e w' ⟨rfl, rfl⟩)
    go_ret
    refine ⟨?_, rfl⟩
    simp [h]
  · go_enter Try.func40, Try.ntmps40
    go_wp2_with (go_at_call 38; refine (sectors_any _ _ _ _ _ (by assumption)).mono ?_; rintro e w' ⟨rfl, rfl⟩)
    go_ret
    refine ⟨?_, rfl⟩
    first | rfl | (rw [decide_eq_false (show ¬ 0 ≤ i by omega)]; rfl)

set_option maxHeartbeats 400000 in
theorem step_no (b : Nat) (dead : Value) (w : World) (h1 : w.cell? ⟨b, 1, none⟩ = some (.int .i64 0)) (h2 : w.cell? ⟨b, 2, none⟩ = some dead)
    (f2 : w.frozen? ⟨b, 2, none⟩ = false) :
    Calls Try.prog 42 #[.pointer (some ⟨b, 0, none⟩)] w fun e w' => e = .returned (.bool false) ∧ w' = w.setCell ⟨b, 2, none⟩ (.bool true) := by
  go_enter Try.func42, Try.ntmps42
  go_wp2
  go_ret
  exact ⟨rfl, rfl⟩

set_option maxHeartbeats 400000 in
theorem step_yes (b : Nat) (fuse : Int) (w : World) (h1 : w.cell? ⟨b, 1, none⟩ = some (.int .i64 fuse)) (hf : fuse ≠ 0) (hb : fuse ≤ 9223372036854775807)
    (f1 : w.frozen? ⟨b, 1, none⟩ = false) :
    Calls Try.prog 42 #[.pointer (some ⟨b, 0, none⟩)] w fun e w' => e = .returned (.bool true) ∧ w' = if 0 < fuse then w.setCell ⟨b, 1, none⟩ (.int .i64 (fuse - 1)) else w := by
  have h0 : (fuse == 0) = false := by simpa using hf
  by_cases hp : 0 < fuse
  · go_enter Try.func42, Try.ntmps42
    go_wp2
    go_ret
    exact ⟨rfl, rfl⟩
  · go_enter Try.func42, Try.ntmps42
    go_wp2
    go_ret
    exact ⟨rfl, rfl⟩

end Go.Proofs.Ytmecbbbopbndmaa
