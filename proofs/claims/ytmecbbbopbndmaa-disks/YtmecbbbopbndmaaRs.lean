import Derived.Test.YtmecbbbopbndmaaRr
namespace Go.Proofs.Ytmecbbbopbndmaa
open Go.RowKit
section
variable {w w' : World} {xd xl xs n cl cs : Nat} {left : Int} {dead : Bool} {T : Int} {L : Nat → ByteArray} {S : Nat → List ByteArray} {V : Nat → Value}

def curS (L : ByteArray) (S : List ByteArray) : ByteArray := (S.getLast?).getD L

theorem rd_read (h : RD w xd xl xs n cl cs left false T L S V) (hT : T ≤ 2199023255552) {i : Nat} (hi : i < n) :
    Calls Try.prog 12 #[.pointer (some ⟨xd, 0, none⟩), .int .i64 (i : Int)] w fun e w' => e = .returned (.tuple #[.string (curS (L i) (S i)), .int .i64 0]) ∧ w' = w := by
  have htt := h.tots i hi
  have hv := (h.cs_ hi).1
  rcases List.eq_nil_or_concat (S i) with h0 | ⟨S', s, hS⟩
  · have hl : curS (L i) (S i) = L i := by simp [curS, h0]
    rw [hl]
    rcases h.form hi with ⟨g, cap, hv', _⟩ | ⟨hv', _⟩
    · rw [hv', h0] at hv
      exact rread_last xd xl xs i n cl cs cap _ _ w h.c0 h.c1 h.c3 hi hv (h.cl_ hi).1
    · rw [hv'] at hv
      exact rread_last xd xl xs i n cl cs 0 _ _ w h.c0 h.c1 h.c3 hi hv (h.cl_ hi).1
  · rw [List.concat_eq_append] at hS
    have hl : curS (L i) (S i) = s := by simp [curS, hS]
    have hlen : (S i).length = S'.length + 1 := by rw [hS]; simp
    rw [hl]
    rcases h.form hi with ⟨g, cap, hv', _, _, _, hc⟩ | ⟨_, h0⟩
    · rw [hv', hlen] at hv
      exact rread_since xd xl xs i n cl cs cap g S'.length s w h.c0 h.c1 h.c3 hi hv (hc _ _ (by rw [hS]; simp)) (by omega)
    · rw [hS] at h0; simp at h0

theorem rd_write (h : RD w xd xl xs n cl cs left false T L S V) (hT : T ≤ 2199023255552) {i : Nat} (hi : i < n) (s : ByteArray) (hs : s.size = 16) (hf : left ≠ 0) :
    Calls Try.prog 15 #[.pointer (some ⟨xd, 0, none⟩), .int .i64 (i : Int), .string s] w fun e w' => e = .returned (.int .i64 0) ∧ Touch (fun k => k = xd ∨ k = xs ∨ (V i).ownBlock = some k) w w' ∧
      ∃ v', RD w' xd xl xs n cl cs (less left) false (T + 1) L (upd S i (S i ++ [s])) (upd V i v') ∧ (∀ g, v'.ownBlock = some g → (V i).ownBlock = some g ∨ w.heap.size ≤ g) := by
  have htt := h.tots i hi
  have hl1 := h.left1
  have hl0 := h.left0
  obtain ⟨w1, hw1, hp1, ht1, hsz⟩ : ∃ w1, w1 = (if 0 < left then w.setCell ⟨xd, 2, none⟩ (.int .i64 (left - 1)) else w) ∧ RD w1 xd xl xs n cl cs (less left) false T L S V ∧ Touch (fun k => k = xd) w w1 ∧ w1.heap.size = w.heap.size := by
    refine ⟨_, rfl, ?_, ?_, ?_⟩
    · unfold less
      split
      · exact h.setLeft _ (by omega) (by omega)
      · exact h
    · split
      · exact (Touch.refl (fun k => k = xd) w).setCell (a := ⟨xd, 2, none⟩) (fun _ => rfl) _
      · exact Touch.refl _ _
    · split <;> simp
  have hap := hp1.ap1 i hi
  refine (rwrite_ok xd xs i n cl cs (S i).length _ s (V i) _ left w w1 h.c0 h.c2 h.c3 (h.disk.frozen 2) hi hs hf hl1 hw1 hp1.c1 (hp1.cs_ hi).1 (hp1.cs_ hi).2 (hp1.own i hi) (by omega) hap.2.2 hap.1).mono ?_
  rintro e w' ⟨he, g, cap, m, w2, rfl, ho, hgw, hgb, hglt⟩
  have hbg : ∀ k, (Value.slice (some ⟨g, 0, none⟩) ((S i).length + 1) cap).ownBlock = some k → (V i).ownBlock = some k ∨ w.heap.size ≤ k := by
    intro k hk
    have : g = k := by simpa [Value.ownBlock] using hk
    subst this
    rw [← hsz]; exact hgb
  have t2 : Touch (fun k => k = xd ∨ k = xs ∨ (V i).ownBlock = some k) w w2 :=
    (((ht1.mono (fun _ _ h => .inl h)).alloc _).drewN m).grown hgw (fun k hk _ => .inr (.inr hk))
  have t : Touch (fun k => k = xd ∨ k = xs ∨ (V i).ownBlock = some k) w (w2.setCell ⟨xs, i, none⟩ (.slice (some ⟨g, 0, none⟩) ((S i).length + 1) cap)) := t2.setCell (a := ⟨xs, i, none⟩) (fun _ => .inr (.inl rfl)) _
  -- from w1 on
  have t12 : Touch (fun k => (V i).ownBlock = some k) w1 w2 := (((Touch.refl _ w1).alloc _).drewN m).grown hgw (fun k hk _ => hk)
  have t13 : Touch (fun k => k = xs ∨ (V i).ownBlock = some k) w1 (w2.setCell ⟨xs, i, none⟩ (.slice (some ⟨g, 0, none⟩) ((S i).length + 1) cap)) := (t12.mono (fun _ _ h => .inr h)).setCell (a := ⟨xs, i, none⟩) (fun _ => .inl rfl) _
  refine ⟨he, t, _, ?_, hbg⟩
  have hnb : ∀ k, k < w.heap.size → (V i).ownBlock ≠ some k → (Value.slice (some ⟨g, 0, none⟩) ((S i).length + 1) cap).ownBlock ≠ some k := by
    intro k hk hne e
    rcases hbg k e with e1 | e1
    · exact hne e1
    · omega
  exact
    { hp1 with
      disk := hp1.disk.of_block (t13.block _ hp1.disk.lt (fun e => e.elim h.ne2 (h.ap1 i hi).1))
      last := by
        obtain ⟨f, hf, hv⟩ := hp1.last
        exact ⟨f, hf.of_block (t13.block _ hf.lt (fun e => e.elim h.ne3 (h.ap1 i hi).2.1)), hv⟩
      since := by
        obtain ⟨f, hf, hv⟩ := hp1.since
        refine ⟨_, (hf.of_block (t12.block _ hf.lt (h.ap1 i hi).2.2)).set i _, fun j hj => ?_⟩
        unfold upd
        split
        · rfl
        · exact hv j hj
      own := fun j hj => by
        by_cases e : j = i
        · subst e; rw [upd_same, upd_same]
          have := ownsRow_of_block (w' := w2.setCell ⟨xs, j, none⟩ (.slice (some ⟨g, 0, none⟩) ((S j).length + 1) cap)) ho (fun k hk => Below.heap_setCell _ _ _ _ (fun e => by
            subst e
            exact hnb _ h.slt (h.ap1 j hj).2.2 hk))
          simpa using this
        · rw [upd_ne _ _ _ e, upd_ne _ _ _ e]
          exact ownsRow_of_block (hp1.own j hj) (fun k hk => t13.block k (ownsRow_lt (hp1.own j hj) hk) (fun e' => e'.elim (fun e' => (h.ap1 j hj).2.2 (by rw [hk, e'])) (fun e' => h.ap2 j hj i hi e k hk e')))
      tots := fun j hj => by
        by_cases e : j = i
        · subst e; rw [upd_same]; simp; omega
        · rw [upd_ne _ _ _ e]; have := h.tots j hj; omega
      ap1 := fun j hj => by
        by_cases e : j = i
        · subst e; rw [upd_same]
          exact ⟨hnb _ h.disk.lt (h.ap1 j hj).1, hnb _ h.llt (h.ap1 j hj).2.1, hnb _ h.slt (h.ap1 j hj).2.2⟩
        · rw [upd_ne _ _ _ e]; exact h.ap1 j hj
      ap2 := fun j hj k hk hne g' hg => by
        by_cases e : j = i
        · subst e
          rw [upd_same] at hg
          rw [upd_ne _ _ _ (fun e => hne e.symm)]
          rcases hbg _ hg with e2 | e2
          · exact h.ap2 j hj k hk hne g' e2
          · intro e3
            have := ownsRow_lt (h.own k hk) e3
            omega
        · rw [upd_ne _ _ _ e] at hg
          by_cases e' : k = i
          · subst e'; rw [upd_same]
            exact hnb _ (ownsRow_lt (h.own j hj) hg) (h.ap2 j hj k hk hne g' hg)
          · rw [upd_ne _ _ _ e']; exact h.ap2 j hj k hk hne g' hg }

set_option maxHeartbeats 400000 in
theorem rsync_dead (b : Nat) (w : World) (h2 : w.cell? ⟨b, 3, none⟩ = some (.bool true)) :
    Calls Try.prog 17 #[.pointer (some ⟨b, 0, none⟩)] w fun e w' => e = .returned (.int .i64 2) ∧ w' = w := by
  go_enter Try.func17, Try.ntmps17
  go_wp2_with fail
  go_ret
  exact ⟨rfl, rfl⟩

set_option maxHeartbeats 400000 in
theorem rsync_fuse (b : Nat) (w : World) (h1 : w.cell? ⟨b, 2, none⟩ = some (.int .i64 0)) (h2 : w.cell? ⟨b, 3, none⟩ = some (.bool false)) (f2 : w.frozen? ⟨b, 3, none⟩ = false) :
    Calls Try.prog 17 #[.pointer (some ⟨b, 0, none⟩)] w fun e w' => e = .returned (.int .i64 2) ∧ w' = w.setCell ⟨b, 3, none⟩ (.bool true) := by
  go_enter Try.func17, Try.ntmps17
  go_wp2_with (go_at_call 44; refine (rstep_no _ _ _ h1 h2 f2).mono ?_; rintro e w' ⟨rfl, rfl⟩)
  go_ret
  exact ⟨rfl, rfl⟩

set_option maxRecDepth 100000 in
set_option maxHeartbeats 1000000 in
theorem rsync_loop (h : RD w xd xl xs n cl cs left false T L S V) (hT : T ≤ 2199023255552) (hn : n ≤ 200) (hf : left ≠ 0) :
    Calls Try.prog 17 #[.pointer (some ⟨xd, 0, none⟩)] w fun e w' => e = .returned (.int .i64 0) ∧ Touch (fun k => k = xd ∨ k = xl ∨ k = xs) w w' ∧
      RD w' xd xl xs n cl cs (less left) false T (below n (fun i => setl (L i) (S i) (S i).length) L) (below n (fun _ => []) S) (below n (fun _ => .slice none 0 0) V) := by
  have h0 := h.c0
  have h1 := h.c1
  have h2 := h.c2
  have h3 := h.c3
  have hl1 := h.left1
  have hl0 := h.left0
  have Hst := hd (rstep_yes xd left w h2 hf hl1 (h.disk.frozen 2))
  obtain ⟨w1, hw1, hp1, ht1⟩ : ∃ w1, w1 = (if 0 < left then w.setCell ⟨xd, 2, none⟩ (.int .i64 (left - 1)) else w) ∧ RD w1 xd xl xs n cl cs (less left) false T L S V ∧ Touch (fun k => k = xd ∨ k = xl ∨ k = xs) w w1 := by
    refine ⟨_, rfl, ?_, ?_⟩
    · unfold less
      split
      · exact h.setLeft _ (by omega) (by omega)
      · exact h
    · split
      · exact (Touch.refl (fun k => k = xd ∨ k = xl ∨ k = xs) w).setCell (a := ⟨xd, 2, none⟩) (fun _ => .inl rfl) _
      · exact Touch.refl _ _
  have Hw1 := hd hw1
  have Hp1 := hd hp1
  have hn' : (n : Int) ≤ 200 := by omega
  clear hw1 hp1 h hf
  go_enter Try.func17, Try.ntmps17
  go_wp2_with (go_at_call 44; refine Hst.out.mono ?_; rintro e wS ⟨rfl, hS⟩; rw [← Hw1.out] at hS; replace hS := hS.symm; subst hS)
  go_loopg [4] n (fun k s4 wr => ∃ j : Nat, j + k = n ∧ s4 = .int .i64 j ∧ Touch (fun k => k = xd ∨ k = xl ∨ k = xs) w wr ∧
    RD wr xd xl xs n cl cs (less left) false T (below j (fun i => setl (L i) (S i) (S i).length) L) (below j (fun _ => []) S) (below j (fun _ => .slice none 0 0) V))
  case atStart => exact ⟨0, by simp, rfl, ht1, by rw [below_zero, below_zero, below_zero]; exact Hp1.out⟩
  case round =>
    obtain ⟨j, hj, rfl, ht, hp⟩ := hrel
    have Hp := hd hp
    have h1r := hp.c1
    clear hp
    by_cases hlt : j < n
    · have hlt' : (j : Int) < n := by omega
      have hcs := (Hp.out.cs_ hlt).1
      rw [below_at] at hcs
      obtain ⟨a0, c0, hv⟩ : ∃ a0 c0, V j = .slice a0 (S j).length c0 := by
        rcases Hp.out.form hlt with ⟨g, cap, hv, _⟩ | ⟨hv, h0⟩
        · rw [below_at, below_at] at hv; exact ⟨_, _, hv⟩
        · rw [below_at] at hv h0; exact ⟨_, _, by rw [hv, h0]; rfl⟩
      rw [hv] at hcs
      have Hv := hd hv
      have Hset := hd (rd_settle Hp.out hT hlt ((S j).length : Int) (by rw [below_at]; exact Int.le_refl _))
      clear hv
      go_wp2_with (go_at_call 46; refine Hset.out.mono ?_; rintro e w2 ⟨rfl, ht2, hp2⟩)
      go_roundg (gk - 1)
      case measure => omega
      case rel =>
        refine ⟨j + 1, by omega, by go_num, ht.trans (ht2.mono (fun _ _ h => .inr h)), ?_⟩
        rw [below_succ, below_succ, below_succ]
        rw [below_at, below_at] at hp2
        exact hp2
    · go_wp2_with fail
      go_ret
      obtain rfl : j = n := by omega
      exact ⟨rfl, ht, Hp.out⟩
end
end Go.Proofs.Ytmecbbbopbndmaa
