import Derived.Test.YtmecbbbopbndmaaPw
namespace Go.Proofs.Ytmecbbbopbndmaa
open Go.RowKit
section
variable {w w' : World} {bd bp n : Nat} {fuse : Int} {dead : Bool} {T : Int} {L : Nat → ByteArray} {R : Nat → List Run} {V : Nat → Value}

theorem pd_keepAll (h : PD w bd bp n fuse dead T L R V) (hT : T ≤ 2199023255552) {i : Nat} (hi : i < n) :
    Calls Try.prog 45 #[.pointer (some ⟨bp, i * 17, none⟩)] w fun e w' => e = .returned (.tuple #[]) ∧ Touch (fun k => k = bp) w w' ∧
      PD w' bd bp n fuse dead T (upd L i (keepB (L i) (R i) 9223372036854775807)) (upd R i []) (upd V i (.slice none 0 0)) := by
  have H := hd (pd_keep h hT hi 9223372036854775807 (by decide) (by decide))
  clear h hT hi
  go_enter Try.func45, Try.ntmps45
  go_wp2_with (go_at_call 47; refine H.out.mono ?_; rintro e w' ⟨rfl, ht⟩)
  go_end0
  exact ⟨rfl, ht⟩

/-- a fuse, one step later. -/
def less (f : Int) : Int := if 0 < f then f - 1 else f

/-- one place after the other: those below i are kept. -/
def below {α : Type} (i : Nat) (f g : Nat → α) : Nat → α := fun j => if j < i then f j else g j
theorem below_zero {α : Type} (f g : Nat → α) : below 0 f g = g := by funext j; simp [below]
theorem below_succ {α : Type} (i : Nat) (f g : Nat → α) : below (i + 1) f g = upd (below i f g) i (f i) := by
  funext j
  unfold below upd
  by_cases h1 : j = i
  · subst h1; simp
  · rw [if_neg h1]
    show _ = if j < i then f j else g j
    by_cases h2 : j < i
    · rw [if_pos h2, if_pos (by omega)]
    · rw [if_neg h2, if_neg (by omega)]
theorem below_at {α : Type} (i : Nat) (f g : Nat → α) : below i f g i = g i := by simp [below]
theorem below_all {α : Type} (n : Nat) (f g : Nat → α) {j : Nat} (h : j < n) : below n f g j = f j := by simp [below, h]

set_option maxRecDepth 100000 in
set_option maxHeartbeats 1000000 in
theorem sync_loop (h : PD w bd bp n fuse false T L R V) (hT : T ≤ 2199023255552) (hn : n ≤ 200) (hf : fuse ≠ 0) :
    Calls Try.prog 16 #[.pointer (some ⟨bd, 0, none⟩)] w fun e w' => e = .returned (.int .i64 0) ∧ Touch (fun k => k = bd ∨ k = bp) w w' ∧
      PD w' bd bp n (less fuse) false T (below n (fun i => keepB (L i) (R i) 9223372036854775807) L) (below n (fun _ => []) R) (below n (fun _ => .slice none 0 0) V) := by
  have h0 := h.c0
  have h1 := h.c1
  have h2 := h.c2
  have Hst := hd (step_yes bd fuse w h1 hf h.fuse1 (h.disk.frozen 1))
  obtain ⟨w1, hw1, hp1, ht1⟩ : ∃ w1, w1 = (if 0 < fuse then w.setCell ⟨bd, 1, none⟩ (.int .i64 (fuse - 1)) else w) ∧ PD w1 bd bp n (less fuse) false T L R V ∧ Touch (fun k => k = bd ∨ k = bp) w w1 := by
    refine ⟨_, rfl, ?_, ?_⟩
    · have := h.fuse1
      unfold less
      split
      · exact h.setFuse _ (by omega) (by omega)
      · exact h
    · split
      · exact (PD.touchDisk w bd 1 _).mono (fun _ _ h => .inl h)
      · exact Touch.refl _ _
  have Hw1 := hd hw1
  have Hp1 := hd hp1
  have h01 := hp1.c0
  have hn' : (n : Int) ≤ 200 := by omega
  clear hw1 hp1 h hf
  go_enter Try.func16, Try.ntmps16
  go_wp2_with (go_at_call 42; refine Hst.out.mono ?_; rintro e wS ⟨rfl, hS⟩; rw [← Hw1.out] at hS; replace hS := hS.symm; subst hS)
  go_loopg [3, 20] n (fun k s3 s20 wr => ∃ j : Nat, j + k = n ∧ s20 = .int .i64 j ∧ Touch (fun k => k = bd ∨ k = bp) w wr ∧
    PD wr bd bp n (less fuse) false T (below j (fun i => keepB (L i) (R i) 9223372036854775807) L) (below j (fun _ => []) R) (below j (fun _ => .slice none 0 0) V))
  case atStart => exact ⟨0, by simp, rfl, ht1, by rw [below_zero, below_zero, below_zero]; exact Hp1.out⟩
  case round =>
    obtain ⟨j, hj, rfl, ht, hp⟩ := hrel
    have Hp := hd hp
    have h0r := hp.c0
    clear hp
    by_cases hlt : j < n
    · have hlt' : (j : Int) < n := by omega
      go_wp2_with (go_at_call 45; refine (pd_keepAll Hp.out hT hlt).mono ?_; rintro e w2 ⟨rfl, ht2, hp2⟩)
      go_roundg (gk - 1)
      case measure => omega
      case rel =>
        refine ⟨j + 1, by omega, by go_num, ht.trans (ht2.mono (fun _ _ h => .inr h)), ?_⟩
        rw [below_succ, below_succ, below_succ]
        rw [below_at, below_at] at hp2
        exact hp2
    · go_wp2_with fail
      go_ret
      obtain rfl : j = n := by omega
      exact ⟨rfl, ht, Hp.out⟩
end
end Go.Proofs.Ytmecbbbopbndmaa
