import Derived.Test.YtmecbbbopbndmaaPd
namespace Go.Proofs.Ytmecbbbopbndmaa
open Go.RowKit
section
variable {w w' : World} {bd bp n : Nat} {fuse : Int} {dead : Bool} {T : Int} {L : Nat → ByteArray} {R : Nat → List Run} {V : Nat → Value}

/-- what a place holds now. -/
def curB (L : ByteArray) (R : List Run) : ByteArray := match R.getLast? with
  | some r => r.1
  | none => L

theorem pd_now (h : PD w bd bp n fuse dead T L R V) (hT : T ≤ 2199023255552) {i : Nat} (hi : i < n) :
    Calls Try.prog 41 #[.pointer (some ⟨bp, i * 17, none⟩)] w fun e w' => e = .returned (.agg (u8s (bi (curB (L i) (R i)))).toArray) ∧ Below w.heap.size w w' := by
  have hc := h.cw hi
  have ht := tot_nonneg (R i) (h.good i hi)
  have htt := h.tots i hi
  rcases List.eq_nil_or_concat (R i) with h0 | ⟨R', r, hR⟩
  · have hl : curB (L i) (R i) = L i := by simp [curB, h0]
    rw [hl]
    rcases h.form hi with ⟨g, cap, hv, hg, _⟩ | ⟨hv, _⟩
    · rw [hv, h0] at hc
      exact now_none bp (i * 17) cap _ (bi (L i)) w (h.range hi) (by rw [bi_len]; exact h.len i hi) hc
    · rw [hv] at hc
      exact now_none bp (i * 17) 0 _ (bi (L i)) w (h.range hi) (by rw [bi_len]; exact h.len i hi) hc
  · rw [List.concat_eq_append] at hR
    have hl : curB (L i) (R i) = r.1 := by simp [curB, hR]
    rw [hl]
    rcases h.form hi with ⟨g, cap, hv, hg, _⟩ | ⟨_, h0⟩
    · have hr := h.runs hi hv R'.length r (by rw [hR]; simp)
      have hlen : (R i).length = R'.length + 1 := by rw [hR]; simp
      rw [hv, hlen] at hc
      exact now_some bp (i * 17) g R'.length cap (bi r.1) w (runC_range hr) (by rw [bi_len]; exact (h.good i hi r (by rw [hR]; simp)).1) hc (by omega)
    · rw [hR] at h0; simp at h0

/-- what n writes leave. -/
def keepB (L : ByteArray) : List Run → Int → ByteArray
  | [], _ => L
  | (b, t) :: rs, n => if n ≤ 0 then L else keepB b rs (n - t)
theorem keepGo_bi : ∀ (R : List Run) (L : ByteArray) (n : Int), keepGo (bi L) (rI R) n = bi (keepB L R n)
  | [], L, n => by simp [rI, keepGo, keepB]
  | (b, t) :: R, L, n => by
    have : rI ((b, t) :: R) = (bi b, t) :: rI R := by simp [rI]
    rw [this]
    simp only [keepGo, keepB]
    split
    · rfl
    · exact keepGo_bi R b (n - t)
theorem keepB_size : ∀ (R : List Run) (L : ByteArray) (n : Int), L.size = 16 → goodR R → (keepB L R n).size = 16
  | [], L, n, h, _ => by simpa [keepB] using h
  | (b, t) :: R, L, n, h, hg => by
    simp only [keepB]
    split
    · exact h
    · exact keepB_size R b _ (hg _ (List.mem_cons_self ..)).1 (fun x hx => hg x (List.mem_cons_of_mem _ hx))

theorem pd_keep (h : PD w bd bp n fuse dead T L R V) (hT : T ≤ 2199023255552) {i : Nat} (hi : i < n) (m : Int) (hm0 : -9223372036854775808 ≤ m) (hm1 : m ≤ 9223372036854775807) :
    Calls Try.prog 47 #[.pointer (some ⟨bp, i * 17, none⟩), .int .i64 m] w fun e w' => e = .returned (.tuple #[]) ∧ Touch (fun k => k = bp) w w' ∧
      PD w' bd bp n fuse dead T (upd L i (keepB (L i) (R i) m)) (upd R i []) (upd V i (.slice none 0 0)) := by
  have ht := tot_nonneg (R i) (h.good i hi)
  have htt := h.tots i hi
  have hrow := h.row.congr (g := plc (i * 17) (bi (L i)) (pf L V)) (fun k _ => pf_plc L V i k)
  have hlast : ∀ w', Touch (fun k => k = bp) w w' → w'.rowIs bp 81 (n * 17) (fun k => if k = i * 17 + 16 then .slice none 0 0 else plc (i * 17) (bi (keepB (L i) (R i) m)) (pf L V) k) →
      PD w' bd bp n fuse dead T (upd L i (keepB (L i) (R i) m)) (upd R i []) (upd V i (.slice none 0 0)) := fun w' t hr =>
    { disk := h.disk.of_block (t.block _ h.disk.lt h.ne)
      row := hr.congr (fun k hk => by
        by_cases h1 : k = i * 17 + 16
        · rw [if_pos h1]
          subst h1
          rw [pf_at, upd_same]
        · rw [if_neg h1]
          unfold plc
          by_cases h2 : i * 17 ≤ k ∧ k < i * 17 + 16
          · rw [if_pos h2]
            unfold pf
            have h3 : k / 17 = i := by omega
            have h4 : k % 17 = k - i * 17 := by omega
            rw [if_neg (by omega), h3, h4, upd_same]
          · rw [if_neg h2]
            unfold pf
            have h3 : k / 17 ≠ i := by omega
            rw [upd_ne _ _ _ h3, upd_ne _ _ _ h3])
      own := fun j hj => by
        by_cases e : j = i
        · subst e; rw [upd_same, upd_same]; exact World.ownsRow_nil _ _ _ _
        · rw [upd_ne _ _ _ e, upd_ne _ _ _ e]
          exact ownsRow_of_block (h.own j hj) (fun g hg => t.block g (ownsRow_lt (h.own j hj) hg) (fun e' => (h.ap1 j hj).2 (by rw [hg, e'])))
      len := fun j hj => by
        by_cases e : j = i
        · subst e; rw [upd_same]; exact keepB_size _ _ _ (h.len j hj) (h.good j hj)
        · rw [upd_ne _ _ _ e]; exact h.len j hj
      good := fun j hj => by
        by_cases e : j = i
        · subst e; rw [upd_same]; intro r hr; cases hr
        · rw [upd_ne _ _ _ e]; exact h.good j hj
      tots := fun j hj => by
        by_cases e : j = i
        · subst e; rw [upd_same]; simp [tot]; omega
        · rw [upd_ne _ _ _ e]; exact h.tots j hj
      ne := h.ne
      ap1 := fun j hj => by
        by_cases e : j = i
        · subst e; rw [upd_same]; simp [Value.ownBlock]
        · rw [upd_ne _ _ _ e]; exact h.ap1 j hj
      ap2 := fun j hj k hk hne g hg => by
        by_cases e : j = i
        · subst e; rw [upd_same] at hg; simp [Value.ownBlock] at hg
        · rw [upd_ne _ _ _ e] at hg
          by_cases e' : k = i
          · subst e'; rw [upd_same]; simp [Value.ownBlock]
          · rw [upd_ne _ _ _ e']; exact h.ap2 j hj k hk hne g hg
      fuse0 := h.fuse0
      fuse1 := h.fuse1 }
  rcases h.form hi with ⟨g, cap, hv, hg, hgp, _⟩ | ⟨hv, h0⟩
  · refine (keep_any bp (i * 17) (n * 17) g cap (some ⟨g, 0, none⟩) (rI (R i)) (bi (L i)) m (pf L V) w hrow (by omega) (by rw [bi_len]; exact h.len i hi) (by rw [pf_at, hv]; simp [rI]) (fun _ => rfl) hgp (fun _ => hg)
      (fun j r hj => ?_) (fun r hr => ?_) (by simp [rI]; omega) hm0 hm1).mono ?_
    · simp only [rI, List.getElem?_map, Option.map_eq_some_iff] at hj
      obtain ⟨x, hx, rfl⟩ := hj
      exact h.runs hi hv j x hx
    · simp only [rI, List.mem_map] at hr
      obtain ⟨x, hx, rfl⟩ := hr
      have h1 := h.good i hi x hx
      have h2 := mem_le_tot (R i) (h.good i hi) x hx
      exact ⟨by rw [bi_len]; exact h1.1, h1.2, by simp only; omega⟩
    · rintro e w' ⟨he, t, hr⟩
      rw [keepGo_bi] at hr
      exact ⟨he, t, hlast w' t hr⟩
  · refine (keep_any bp (i * 17) (n * 17) (bp + 1) 0 Option.none [] (bi (L i)) m (pf L V) w hrow (by omega) (by rw [bi_len]; exact h.len i hi) (by rw [pf_at, hv]; simp) (fun h => absurd rfl h) (by omega) (fun h => absurd rfl h)
      (fun j r hj => by simp at hj) (fun r hr => by cases hr) (by simp) hm0 hm1).mono ?_
    rintro e w' ⟨he, t, hr⟩
    refine ⟨he, t, hlast w' t ?_⟩
    rw [h0]
    exact hr

end
end Go.Proofs.Ytmecbbbopbndmaa
