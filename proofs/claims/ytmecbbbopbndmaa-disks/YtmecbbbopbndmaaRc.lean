import Derived.Test.YtmecbbbopbndmaaRs
namespace Go.Proofs.Ytmecbbbopbndmaa
open Go.RowKit
section
variable {w w' : World} {xd xl xs n cl cs : Nat} {left : Int} {dead : Bool} {T : Int} {L : Nat → ByteArray} {S : Nat → List ByteArray} {V : Nat → Value}

/-- a number that is too great is the greatest. -/
def capN (x : Int) (l : Nat) : Int := if (l : Int) < x then l else x
theorem capN_le (x : Int) (l : Nat) : capN x l ≤ l := by unfold capN; split <;> omega
theorem setl_nil (L : ByteArray) (x : Int) : setl L [] (capN x 0) = L := by
  unfold setl
  have := capN_le x 0
  rw [if_neg (by omega)]

def rcV (S : Nat → List ByteArray) (V : Nat → Value) : Nat → Value := fun i => if (S i).isEmpty then V i else .slice none 0 0

theorem nz_le {α : Type} (R : Nat → List α) (j : Nat) : nz R j ≤ j := by
  induction j with
  | zero => simp [nz]
  | succ j ih => simp only [nz]; split <;> omega

set_option maxRecDepth 100000 in
set_option maxHeartbeats 1000000 in
theorem rcrash_any (K : List Int) (kb ko c : Nat) (a : Option Addr) (h : RD w xd xl xs n cl cs left dead T L S V) (hT : T ≤ 2199023255552) (hn : n ≤ 200)
    (ha : K ≠ [] → a = some ⟨kb, ko, none⟩) (hK : ∀ q x, K[q]? = some x → w.cell? ⟨kb, ko + q, none⟩ = some (.int .i64 x))
    (hk1 : kb ≠ xd) (hk2 : kb ≠ xl) (hk3 : kb ≠ xs) (hk4 : kb < w.heap.size) :
    Calls Try.prog 22 #[.pointer (some ⟨xd, 0, none⟩), .slice a K.length c] w fun e w' => e = .returned (.tuple #[]) ∧ Touch (fun k => k = xd ∨ k = xl ∨ k = xs) w w' ∧
      RD w' xd xl xs n cl cs (-1) false T (below n (fun i => setl (L i) (S i) (capN (K.getD (nz S i) 0) (S i).length)) L) (below n (fun _ => []) S) (below n (rcV S V) V) := by
  have h0 := h.c0
  have Hh := hd h
  have hn' : (n : Int) ≤ 200 := by omega
  have Ha := hd ha
  have HK := hd hK
  clear h ha hK
  go_enter Try.func22, Try.ntmps22
  go_wp2_with fail
  go_loopg [4, 5, 6] n (fun k s4 s5 s6 wr => ∃ (j : Nat), j + k = n ∧ s5 = .int .i64 j ∧ s4 = .int .i64 (nz S j : Nat) ∧ Touch (fun k => k = xd ∨ k = xl ∨ k = xs) w wr ∧
    RD wr xd xl xs n cl cs left dead T (below j (fun i => setl (L i) (S i) (capN (K.getD (nz S i) 0) (S i).length)) L) (below j (fun _ => []) S) (below j (rcV S V) V))
  case atStart => exact ⟨0, by simp, rfl, rfl, Touch.refl _ _, by rw [below_zero, below_zero, below_zero]; exact Hh.out⟩
  case round =>
    obtain ⟨j, hj, rfl, rfl, ht, hp⟩ := hrel
    have Hp := hd hp
    have h1r := hp.c1
    have h2r := hp.c2
    have h3r := hp.c3
    have f2r := hp.disk.frozen 2
    have f3r := hp.disk.frozen 3
    clear hp
    have hqj := nz_le S j
    generalize hq : nz S j = q at *
    have Hq := hd hq
    have hqb : (q : Int) ≤ 200 := by omega
    clear hq
    by_cases hlt : j < n
    · have hlt' : (j : Int) < n := by omega
      have hcw := (Hp.out.cs_ hlt).1
      rw [below_at] at hcw
      have htt := Hp.out.tots j hlt
      rw [below_at] at htt
      by_cases hS : S j = []
      · obtain ⟨a0, c0, hv⟩ : ∃ a0 c0, V j = .slice a0 0 c0 := by
          rcases Hp.out.form hlt with ⟨g, cap, hv, _⟩ | ⟨hv, _⟩
          · rw [below_at, below_at, hS] at hv; exact ⟨_, _, hv⟩
          · rw [below_at] at hv; exact ⟨_, _, hv⟩
        rw [hv] at hcw
        have Hv := hd hv
        have HS := hd hS
        clear hv hS htt
        go_wp2_with fail
        go_roundg (gk - 1)
        case measure => omega
        case rel =>
          have hnz : nz S (j + 1) = q := by simp [nz, HS.out, Hq.out]
          refine ⟨j + 1, by omega, by go_num, by rw [hnz], ht, ?_⟩
          rw [below_succ, below_succ, below_succ, upd_self _ _ _ (by rw [below_at, HS.out]; exact (setl_nil _ _).symm), upd_self _ _ _ (by rw [below_at, HS.out]), upd_self _ _ _ (by rw [below_at]; simp [rcV, HS.out])]
          exact Hp.out
      · obtain ⟨g, l0, c0, hv, hl0⟩ : ∃ g l0 c0, V j = .slice (some ⟨g, 0, none⟩) (l0 + 1) c0 ∧ (S j).length = l0 + 1 := by
          obtain ⟨l0, hl0⟩ : ∃ l0, (S j).length = l0 + 1 := ⟨(S j).length - 1, by have := List.length_pos_iff.2 hS; omega⟩
          rcases Hp.out.form hlt with ⟨g, cap, hv, _⟩ | ⟨_, h0⟩
          · rw [below_at, below_at, hl0] at hv; exact ⟨_, _, _, hv, hl0⟩
          · rw [below_at] at h0; exact absurd h0 hS
        rw [hv] at hcw
        have Hv := hd hv
        have HS := hd hS
        have Hl0 := hd hl0
        have Hnz := hd (show nz S (j + 1) = q + 1 by simp [nz, hS, Hq.out])
        have Hcrv := hd (show rcV S V j = .slice none 0 0 by simp [rcV, hS])
        have hl1 : (0 : Int) ≤ (l0 : Int) := by omega
        have hl2 : (((l0 : Int) + 1) == 0) = false := beq_eq_false_iff_ne.2 (by omega)
        have hl3 : (l0 : Int) ≤ 2199023255552 := by omega
        clear hv hS hl0 htt
        by_cases hqm : q < K.length
        · obtain ⟨x, hx⟩ : ∃ x, K[q]? = some x := ⟨K[q], by simp [hqm]⟩
          have hne : K ≠ [] := by intro e; simp [e] at hqm
          have hga := Ha.out hne
          subst hga
          have hcell : wr.cell? ⟨kb, ko + q, none⟩ = some (.int .i64 x) := by
            rw [ht.cell (a := ⟨kb, ko + q, none⟩) hk4 (fun e => e.elim hk1 (fun e => e.elim hk2 hk3))]; exact HK.out q x hx
          have Hxd := hd (show K.getD q 0 = x by rw [List.getD_eq_getElem?_getD, hx]; rfl)
          have hqm' : (q : Int) < K.length := by omega
          clear hx
          by_cases hg : (l0 : Int) + 1 < x
          · have Hset := hd (rd_settle Hp.out hT hlt ((l0 : Int) + 1) (by rw [below_at, Hl0.out]; simp))
            have Hcap := hd (show capN x (l0 + 1) = (l0 : Int) + 1 by unfold capN; rw [if_pos (by simpa using hg)]; simp)
            go_wp2_with (go_at_call 46; refine Hset.out.mono ?_; rintro e w2 ⟨rfl, ht2, hp2⟩)
            go_roundg (gk - 1)
            case measure => omega
            case rel =>
              refine ⟨j + 1, by omega, by go_num, by rw [Hnz.out]; go_num, ht.trans (ht2.mono (fun _ _ h => .inr h)), ?_⟩
              rw [below_succ, below_succ, below_succ, Hq.out, Hxd.out, Hcrv.out, Hl0.out, Hcap.out]
              rw [below_at, below_at] at hp2
              exact hp2
          · have Hset := hd (rd_settle Hp.out hT hlt x (by rw [below_at, Hl0.out]; simp; omega))
            have Hcap := hd (show capN x (l0 + 1) = x by unfold capN; rw [if_neg (by simpa using hg)])
            go_wp2_with (go_at_call 46; refine Hset.out.mono ?_; rintro e w2 ⟨rfl, ht2, hp2⟩)
            go_roundg (gk - 1)
            case measure => omega
            case rel =>
              refine ⟨j + 1, by omega, by go_num, by rw [Hnz.out]; go_num, ht.trans (ht2.mono (fun _ _ h => .inr h)), ?_⟩
              rw [below_succ, below_succ, below_succ, Hq.out, Hxd.out, Hcrv.out, Hl0.out, Hcap.out]
              rw [below_at, below_at] at hp2
              exact hp2
        · have Hxd := hd (show K.getD q 0 = 0 by rw [List.getD_eq_getElem?_getD, List.getElem?_eq_none (by omega)]; rfl)
          have hqm' : ¬ (q : Int) < K.length := by omega
          have Hset := hd (rd_settle Hp.out hT hlt 0 (by rw [below_at, Hl0.out]; simp; omega))
          have Hcap := hd (show capN 0 (l0 + 1) = 0 by unfold capN; rw [if_neg (by omega)])
          go_wp2_with (go_at_call 46; refine Hset.out.mono ?_; rintro e w2 ⟨rfl, ht2, hp2⟩)
          go_roundg (gk - 1)
          case measure => omega
          case rel =>
            refine ⟨j + 1, by omega, by go_num, by rw [Hnz.out]; go_num, ht.trans (ht2.mono (fun _ _ h => .inr h)), ?_⟩
            rw [below_succ, below_succ, below_succ, Hq.out, Hxd.out, Hcrv.out, Hl0.out, Hcap.out]
            rw [below_at, below_at] at hp2
            exact hp2
    · go_wp2_with fail
      go_end0
      obtain rfl : j = n := by omega
      exact ⟨rfl, (ht.setCell (a := ⟨xd, 3, none⟩) (fun _ => .inl rfl) _).setCell (a := ⟨xd, 2, none⟩) (fun _ => .inl rfl) _, (Hp.out.setDead false).setLeft (-1) (by decide) (by decide)⟩
end
end Go.Proofs.Ytmecbbbopbndmaa
