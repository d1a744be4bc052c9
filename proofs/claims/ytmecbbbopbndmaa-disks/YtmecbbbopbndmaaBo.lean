import Derived.Test.YtmecbbbopbndmaaLs
namespace Go.Proofs.Ytmecbbbopbndmaa
open Go.RowKit

/-! the two disks beside each other: plain facts -/
theorem goodR_tail {x : Run} {R : List Run} (h : goodR (x :: R)) : goodR R := fun y hy => h y (List.mem_cons_of_mem _ hy)
theorem expand_cons (x : Run) (R : List Run) : expand (x :: R) = List.replicate x.2.toNat x.1 ++ expand R := by simp [expand]

theorem expand_isEmpty (R : List Run) (h : goodR R) : (expand R).isEmpty = R.isEmpty := by
  cases R with
  | nil => rfl
  | cons x R =>
    have h1 := (h x (List.mem_cons_self ..)).2
    rw [expand_cons, show x.2.toNat = (x.2.toNat - 1) + 1 from by omega, List.replicate_succ]
    rfl

theorem cur_eq (L : ByteArray) (R : List Run) (h : goodR R) : curB L R = curS L (expand R) := by
  rcases List.eq_nil_or_concat R with rfl | ⟨R', r, hR⟩
  · simp [curB, curS, expand]
  · rw [List.concat_eq_append] at hR
    subst hR
    have h1 := (h r (by simp)).2
    have : expand [r] = List.replicate (r.2.toNat - 1) r.1 ++ [r.1] := by
      rw [expand_cons]
      simp only [expand, List.flatMap_nil, List.append_nil]
      rw [← List.replicate_succ', show r.2.toNat - 1 + 1 = r.2.toNat from by omega]
    rw [expand_append, this]
    simp [curB, curS, ← List.append_assoc]

theorem keep_eq : ∀ (R : List Run) (L : ByteArray) (m : Int), goodR R → keepB L R m = setl L (expand R) (capN m (expand R).length)
  | [], L, m, _ => by
    rw [keepB_nil]
    simp only [expand, List.flatMap_nil, List.length_nil]
    exact (setl_nil L m).symm
  | (b, t) :: R, L, m, h => by
    have h1 : 1 ≤ t := (h (b, t) (List.mem_cons_self ..)).2
    have ih := keep_eq R b (m - t) (goodR_tail h)
    simp only [keepB]
    by_cases hm : m ≤ 0
    · rw [if_pos hm]
      unfold setl capN
      rw [if_neg (by split <;> omega)]
    · rw [if_neg hm, ih, expand_cons]
      have hlen : (List.replicate t.toNat b ++ expand R).length = t.toNat + (expand R).length := by simp
      simp only at hlen ⊢
      rw [hlen]
      generalize hl' : (expand R).length = l at *
      by_cases hmt : m ≤ t
      · have a1 : setl b (expand R) (capN (m - t) l) = b := by
          unfold setl
          rw [if_neg (by unfold capN; split <;> omega)]
        have e1 : capN m (t.toNat + l) = m := by unfold capN; rw [if_neg (by omega)]
        rw [a1, e1]
        unfold setl
        rw [if_pos (by omega), List.getElem?_append_left (by simp; omega), List.getElem?_replicate, if_pos (by omega)]
        rfl
      · have e1 : capN m (t.toNat + l) = t + capN (m - t) l := by unfold capN; split <;> split <;> omega
        have hc0 : 0 ≤ capN (m - t) l := by unfold capN; split <;> omega
        have hcl := capN_le (m - t) l
        rw [e1]
        generalize capN (m - t) l = c at *
        unfold setl
        rw [if_pos (show 0 < t + c by omega)]
        by_cases hl : 0 < c
        · rw [if_pos hl, List.getElem?_append_right (by simp; omega)]
          simp only [List.length_replicate]
          rw [show (t + c - 1).toNat - t.toNat = (c - 1).toNat from by omega]
          have hlt : (c - 1).toNat < (expand R).length := by omega
          rw [List.getElem?_eq_getElem hlt]
          rfl
        · rw [if_neg hl, List.getElem?_append_left (by simp; omega), List.getElem?_replicate, if_pos (by omega)]
          rfl

/-- a fuse below 0 is none. -/
def norm (f : Int) : Int := if f < 0 then -1 else f
theorem norm_less (f : Int) (h : f ≠ 0) : norm (less f) = less (norm f) := by
  unfold norm less
  by_cases h0 : f < 0
  · simp [h0, show ¬ 0 < f by omega]
  · simp [h0, show 0 < f by omega, show ¬ f - 1 < 0 by omega]
theorem norm_zero (f : Int) : norm f = 0 ↔ f = 0 := by unfold norm; split <;> omega
theorem norm_ge (f : Int) : -1 ≤ norm f := by unfold norm; split <;> omega
theorem norm_le (f : Int) (h : f ≤ 9223372036854775807) : norm f ≤ 9223372036854775807 := by unfold norm; split <;> omega

theorem nz_eq (R : Nat → List Run) (n : Nat) (h : ∀ i, i < n → goodR (R i)) : ∀ j, j ≤ n → nz (fun i => expand (R i)) j = nz R j
  | 0, _ => rfl
  | j + 1, hj => by
    simp only [nz]
    rw [nz_eq R n h j (by omega), expand_isEmpty _ (h j (by omega))]

theorem capN_max (l : Nat) (h : (l : Int) ≤ 9223372036854775807) : capN 9223372036854775807 l = l := by unfold capN; split <;> omega

end Go.Proofs.Ytmecbbbopbndmaa
