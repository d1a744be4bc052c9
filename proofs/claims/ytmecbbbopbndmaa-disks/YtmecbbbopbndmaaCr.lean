import Derived.Test.YtmecbbbopbndmaaSy
namespace Go.Proofs.Ytmecbbbopbndmaa
open Go.RowKit
section
variable {w w' : World} {bd bp n : Nat} {fuse : Int} {dead : Bool} {T : Int} {L : Nat → ByteArray} {R : Nat → List Run} {V : Nat → Value}

/-- how many of the first j have something open. -/
def nz {α : Type} (R : Nat → List α) : Nat → Nat
  | 0 => 0
  | j + 1 => nz R j + if (R j).isEmpty then 0 else 1

theorem keepB_nil (L : ByteArray) (m : Int) : keepB L [] m = L := rfl
theorem upd_self {α : Type} (f : Nat → α) (i : Nat) (v : α) (h : f i = v) : upd f i v = f := by
  funext j; unfold upd; split
  · rename_i e; subst e; exact h.symm
  · rfl

/-- the writes' slices behind a crash. -/
def crV (R : Nat → List Run) (V : Nat → Value) : Nat → Value := fun i => if (R i).isEmpty then V i else .slice none 0 0

set_option maxRecDepth 100000 in
set_option maxHeartbeats 1000000 in
theorem crash_any (K : List Int) (kb ko c : Nat) (a : Option Addr) (h : PD w bd bp n fuse dead T L R V) (hT : T ≤ 2199023255552) (hn : n ≤ 200)
    (hc : K.length ≤ c) (hcb : (c : Int) ≤ 2305843009213693952) (ha : K ≠ [] → a = some ⟨kb, ko, none⟩) (hK : ∀ q x, K[q]? = some x → w.cell? ⟨kb, ko + q, none⟩ = some (.int .i64 x)) (hKb : ∀ x ∈ K, -9223372036854775808 ≤ x ∧ x ≤ 9223372036854775807)
    (hk1 : kb ≠ bd) (hk2 : kb ≠ bp) (hk3 : kb < w.heap.size) :
    Calls Try.prog 21 #[.pointer (some ⟨bd, 0, none⟩), .slice a K.length c] w fun e w' => e = .returned (.tuple #[]) ∧ Touch (fun k => k = bd ∨ k = bp) w w' ∧
      PD w' bd bp n (-1) false T (below n (fun i => keepB (L i) (R i) (K.getD (nz R i) 0)) L) (below n (fun _ => []) R) (below n (crV R V) V) := by
  have h0 := h.c0
  have Hh := hd h
  have hn' : (n : Int) ≤ 200 := by omega
  have Ha := hd ha
  have HK := hd hK
  have HKb := hd hKb
  have hkl : (K.length : Int) ≤ c := by omega
  clear h ha hK hKb
  go_enter Try.func21, Try.ntmps21
  go_wp2_with fail
  go_loopg [1, 4, 5, 6, 14] n (fun k s1 s4 s5 s6 s14 wr => ∃ (j : Nat) (a' : Option Addr) (c' : Nat), j + k = n ∧ s14 = .int .i64 j ∧ s1 = .slice a' (K.length - nz R j) c' ∧ K.length - nz R j ≤ c' ∧ c' ≤ c ∧ (nz R j < K.length → a' = some ⟨kb, ko + nz R j, none⟩) ∧ Touch (fun k => k = bd ∨ k = bp) w wr ∧
    PD wr bd bp n fuse dead T (below j (fun i => keepB (L i) (R i) (K.getD (nz R i) 0)) L) (below j (fun _ => []) R) (below j (crV R V) V))
  case atStart => exact ⟨0, a, c, by simp, rfl, rfl, by simp only [nz]; omega, Nat.le_refl _, fun h => Ha.out (by intro e; simp [e] at h), Touch.refl _ _, by rw [below_zero, below_zero, below_zero]; exact Hh.out⟩
  case round =>
    obtain ⟨j, a', c', hj, rfl, rfl, hcc, hcc', ha', ht, hp⟩ := hrel
    have Hp := hd hp
    have Ha' := hd ha'
    have h0r := hp.c0
    have h1r := hp.c1
    have h2r := hp.c2
    have f1r := hp.disk.frozen 1
    have f2r := hp.disk.frozen 2
    clear hp ha'
    generalize hq : nz R j = q at *
    have Hq := hd hq
    clear hq
    by_cases hlt : j < n
    · have hlt' : (j : Int) < n := by omega
      have hcw := Hp.out.cw hlt
      rw [below_at] at hcw
      by_cases hR : R j = []
      · obtain ⟨a0, c0, hv⟩ : ∃ a0 c0, V j = .slice a0 0 c0 := by
          rcases Hp.out.form hlt with ⟨g, cap, hv, _⟩ | ⟨hv, _⟩
          · rw [below_at, below_at, hR] at hv; exact ⟨_, _, hv⟩
          · rw [below_at] at hv; exact ⟨_, _, hv⟩
        rw [hv] at hcw
        have Hv := hd hv
        have HR := hd hR
        clear hv hR
        go_wp2_with fail
        go_roundg (gk - 1)
        case measure => omega
        case rel =>
          have hnz : nz R (j + 1) = q := by simp [nz, HR.out, Hq.out]
          refine ⟨j + 1, a', c', by omega, by go_num, by rw [hnz], by rw [hnz]; exact hcc, hcc', by rw [hnz]; exact Ha'.out, ht, ?_⟩
          rw [below_succ, below_succ, below_succ, upd_self _ _ _ (by rw [below_at, HR.out, keepB_nil]), upd_self _ _ _ (by rw [below_at, HR.out]), upd_self _ _ _ (by rw [below_at]; simp [crV, HR.out])]
          exact Hp.out
      · obtain ⟨g, l0, c0, hv, hl0⟩ : ∃ g l0 c0, V j = .slice (some ⟨g, 0, none⟩) (l0 + 1) c0 ∧ (R j).length = l0 + 1 := by
          obtain ⟨l0, hl0⟩ : ∃ l0, (R j).length = l0 + 1 := ⟨(R j).length - 1, by have := List.length_pos_iff.2 hR; omega⟩
          rcases Hp.out.form hlt with ⟨g, cap, hv, _⟩ | ⟨_, h0⟩
          · rw [below_at, below_at, hl0] at hv; exact ⟨_, _, _, hv, hl0⟩
          · rw [below_at] at h0; exact absurd h0 hR
        rw [hv] at hcw
        have Hv := hd hv
        have HR := hd hR
        have hnz : nz R (j + 1) = q + 1 := by simp [nz, hR, Hq.out]
        have Hnz := hd hnz
        have hcrv : crV R V j = .slice none 0 0 := by simp [crV, hR]
        have Hcrv := hd hcrv
        have hl1 : (0 : Int) ≤ (l0 : Int) := by omega
        have hl2 : (((l0 : Int) + 1) == 0) = false := beq_eq_false_iff_ne.2 (by omega)
        clear hv hR hnz hcrv hl0
        by_cases hqm : q < K.length
        · have haa := Ha'.out hqm
          subst haa
          obtain ⟨m1, hm1⟩ : ∃ m1, K.length - q = m1 + 1 := ⟨K.length - q - 1, by omega⟩
          obtain ⟨c1, hc1⟩ : ∃ c1, c' = c1 + 1 := ⟨c' - 1, by omega⟩
          subst hc1
          rw [hm1]
          obtain ⟨x, hx⟩ : ∃ x, K[q]? = some x := ⟨K[q], by simp [hqm]⟩
          have hxd : K.getD q 0 = x := by rw [List.getD_eq_getElem?_getD, hx]; rfl
          have hcell : wr.cell? ⟨kb, ko + q, none⟩ = some (.int .i64 x) := by
            rw [ht.cell (a := ⟨kb, ko + q, none⟩) hk3 (fun e => e.elim hk1 hk2)]; exact HK.out q x hx
          have hxb := HKb.out x (List.mem_of_getElem? hx)
          have Hkeep := hd (fun nq => pd_keep (Hp.out.still ((Touch.refl _ wr).drewN nq)) hT hlt x hxb.1 hxb.2)
          have Hxd := hd hxd
          have Hm1 := hd hm1
          have hmc : (m1 : Int) ≤ c1 := by omega
          have hc1b : (c1 : Int) ≤ 2305843009213693952 := by omega
          clear hx hxd hm1 hxb
          by_cases hz : c1 = 0
          · subst hz
            go_wp2_with fail
            go_quiet (fail)
            go_wp2_with (go_at_call 47; refine (Hkeep.out _).mono ?_; rintro e w2 ⟨rfl, ht2, hp2⟩)
            go_roundg (gk - 1)
            case measure => omega
            case rel =>
              refine ⟨j + 1, _, _, by omega, by go_num, by rw [Hnz.out, show K.length - (q + 1) = m1 by have := Hm1.out; omega], by rw [Hnz.out]; have := Hm1.out; omega, by omega, fun hq2 => absurd hq2 (by have := Hm1.out; rw [Hnz.out]; omega), (ht.drewN nq).trans (ht2.mono (fun _ _ h => .inr h)), ?_⟩
              rw [below_succ, below_succ, below_succ, Hq.out, Hxd.out, Hcrv.out]
              rw [below_at, below_at] at hp2
              exact hp2
          · have hz' : (c1 + 1 = 1) = False := by simp [hz]
            go_wp2_with fail
            go_quiet (fail)
            go_wp2_with (go_at_call 47; refine (Hkeep.out _).mono ?_; rintro e w2 ⟨rfl, ht2, hp2⟩)
            go_roundg (gk - 1)
            case measure => omega
            case rel =>
              refine ⟨j + 1, _, _, by omega, by go_num, by rw [Hnz.out, show K.length - (q + 1) = m1 by have := Hm1.out; omega], by rw [Hnz.out]; have := Hm1.out; omega, by omega, fun hq2 => by rw [Hnz.out]; rfl, (ht.drewN nq).trans (ht2.mono (fun _ _ h => .inr h)), ?_⟩
              rw [below_succ, below_succ, below_succ, Hq.out, Hxd.out, Hcrv.out]
              rw [below_at, below_at] at hp2
              exact hp2
        · have hm0 : K.length - q = 0 := by omega
          rw [hm0]
          have Hm0 := hd hm0
          have hxd : K.getD q 0 = 0 := by rw [List.getD_eq_getElem?_getD, List.getElem?_eq_none (by omega)]; rfl
          have Hxd := hd hxd
          have Hkeep := hd (fun nq => pd_keep (Hp.out.still ((Touch.refl _ wr).drewN nq)) hT hlt 0 (by decide) (by decide))
          clear hm0 hxd
          go_wp2_with (go_at_call 47; refine (Hkeep.out 0).mono ?_; rintro e w2 ⟨rfl, ht2, hp2⟩)
          go_roundg (gk - 1)
          case measure => omega
          case rel =>
            refine ⟨j + 1, a', c', by omega, by go_num, by rw [Hnz.out, show K.length - (q + 1) = 0 by omega], by rw [Hnz.out]; omega, hcc', fun hq2 => absurd hq2 (by rw [Hnz.out]; omega), (ht.drewN 0).trans (ht2.mono (fun _ _ h => .inr h)), ?_⟩
            rw [below_succ, below_succ, below_succ, Hq.out, Hxd.out, Hcrv.out]
            rw [below_at, below_at] at hp2
            exact hp2
    · go_wp2_with fail
      go_end0
      obtain rfl : j = n := by omega
      exact ⟨rfl, (ht.setCell (a := ⟨bd, 2, none⟩) (fun _ => .inl rfl) _).setCell (a := ⟨bd, 1, none⟩) (fun _ => .inl rfl) _, (Hp.out.setDead false).setFuse (-1) (by decide) (by decide)⟩
end
end Go.Proofs.Ytmecbbbopbndmaa
