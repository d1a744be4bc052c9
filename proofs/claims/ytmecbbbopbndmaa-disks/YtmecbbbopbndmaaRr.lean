import Derived.Test.YtmecbbbopbndmaaRw
namespace Go.Proofs.Ytmecbbbopbndmaa
open Go.RowKit

/-! the document's disk in memory -/
structure RD (w : World) (xd xl xs n cl cs : Nat) (left : Int) (dead : Bool) (T : Int) (L : Nat → ByteArray) (S : Nat → List ByteArray) (V : Nat → Value) : Prop where
  disk : w.rowIs xd 47 4 (fun i => if i = 0 then .slice (some ⟨xl, 0, none⟩) n cl else if i = 1 then .slice (some ⟨xs, 0, none⟩) n cs else if i = 2 then .int .i64 left else .bool dead)
  last : ∃ f, w.rowIs xl 9 cl f ∧ ∀ i, i < n → f i = .string (L i)
  since : ∃ f, w.rowIs xs 44 cs f ∧ ∀ i, i < n → f i = V i
  ncl : n ≤ cl
  ncs : n ≤ cs
  own : ∀ i, i < n → w.ownsRow 0 9 1 (V i) (S i).length ((S i).map .string)
  tots : ∀ i, i < n → ((S i).length : Int) ≤ T
  ne1 : xd ≠ xl
  ne2 : xd ≠ xs
  ne3 : xl ≠ xs
  ap1 : ∀ i, i < n → (V i).ownBlock ≠ some xd ∧ (V i).ownBlock ≠ some xl ∧ (V i).ownBlock ≠ some xs
  ap2 : ∀ i, i < n → ∀ j, j < n → i ≠ j → ∀ g, (V i).ownBlock = some g → (V j).ownBlock ≠ some g
  left0 : -1 ≤ left
  left1 : left ≤ 9223372036854775807

def RF (xd xl xs n : Nat) (V : Nat → Value) (k : Nat) : Prop := k = xd ∨ k = xl ∨ k = xs ∨ ∃ i, i < n ∧ (V i).ownBlock = some k

section
variable {w w' : World} {xd xl xs n cl cs : Nat} {left : Int} {dead : Bool} {T : Int} {L : Nat → ByteArray} {S : Nat → List ByteArray} {V : Nat → Value}

theorem RD.llt (h : RD w xd xl xs n cl cs left dead T L S V) : xl < w.heap.size := by obtain ⟨f, hf, _⟩ := h.last; exact hf.lt
theorem RD.slt (h : RD w xd xl xs n cl cs left dead T L S V) : xs < w.heap.size := by obtain ⟨f, hf, _⟩ := h.since; exact hf.lt
theorem RD.lt (h : RD w xd xl xs n cl cs left dead T L S V) {k : Nat} (hk : RF xd xl xs n V k) : k < w.heap.size := by
  rcases hk with rfl | rfl | rfl | ⟨i, hi, hg⟩
  · exact h.disk.lt
  · exact h.llt
  · exact h.slt
  · exact ownsRow_lt (h.own i hi) hg

theorem RD.frame {F : Nat → Prop} (h : RD w xd xl xs n cl cs left dead T L S V) (t : Touch F w w') (hF : ∀ k, RF xd xl xs n V k → ¬ F k) : RD w' xd xl xs n cl cs left dead T L S V :=
  { h with
    disk := h.disk.of_block (t.block _ h.disk.lt (hF _ (.inl rfl)))
    last := by
      obtain ⟨f, hf, hv⟩ := h.last
      exact ⟨f, hf.of_block (t.block _ hf.lt (hF _ (.inr (.inl rfl)))), hv⟩
    since := by
      obtain ⟨f, hf, hv⟩ := h.since
      exact ⟨f, hf.of_block (t.block _ hf.lt (hF _ (.inr (.inr (.inl rfl))))), hv⟩
    own := fun i hi => ownsRow_of_block (h.own i hi) (fun g hg => t.block g (ownsRow_lt (h.own i hi) hg) (hF _ (.inr (.inr (.inr ⟨i, hi, hg⟩))))) }

theorem RD.still (h : RD w xd xl xs n cl cs left dead T L S V) (t : Touch (fun _ => False) w w') : RD w' xd xl xs n cl cs left dead T L S V := h.frame t (fun _ _ h => h)
theorem RD.more (h : RD w xd xl xs n cl cs left dead T L S V) {T' : Int} (hT : T ≤ T') : RD w xd xl xs n cl cs left dead T' L S V :=
  { h with tots := fun i hi => Int.le_trans (h.tots i hi) hT }

theorem RD.c0 (h : RD w xd xl xs n cl cs left dead T L S V) : w.cell? ⟨xd, 0, none⟩ = some (.slice (some ⟨xl, 0, none⟩) n cl) := h.disk.cell (i := 0) (by omega)
theorem RD.c1 (h : RD w xd xl xs n cl cs left dead T L S V) : w.cell? ⟨xd, 1, none⟩ = some (.slice (some ⟨xs, 0, none⟩) n cs) := h.disk.cell (i := 1) (by omega)
theorem RD.c2 (h : RD w xd xl xs n cl cs left dead T L S V) : w.cell? ⟨xd, 2, none⟩ = some (.int .i64 left) := h.disk.cell (i := 2) (by omega)
theorem RD.c3 (h : RD w xd xl xs n cl cs left dead T L S V) : w.cell? ⟨xd, 3, none⟩ = some (.bool dead) := h.disk.cell (i := 3) (by omega)
theorem RD.cl_ (h : RD w xd xl xs n cl cs left dead T L S V) {i : Nat} (hi : i < n) : w.cell? ⟨xl, i, none⟩ = some (.string (L i)) ∧ w.frozen? ⟨xl, i, none⟩ = false := by
  obtain ⟨f, hf, hv⟩ := h.last
  have := h.ncl
  exact ⟨by rw [hf.cell (by omega), hv i hi], hf.frozen _⟩
theorem RD.cs_ (h : RD w xd xl xs n cl cs left dead T L S V) {i : Nat} (hi : i < n) : w.cell? ⟨xs, i, none⟩ = some (V i) ∧ w.frozen? ⟨xs, i, none⟩ = false := by
  obtain ⟨f, hf, hv⟩ := h.since
  have := h.ncs
  exact ⟨by rw [hf.cell (by omega), hv i hi], hf.frozen _⟩

theorem RD.setDisk (h : RD w xd xl xs n cl cs left dead T L S V) (j : Nat) (v : Value) (l' : Int) (d' : Bool) (h0 : -1 ≤ l') (h1 : l' ≤ 9223372036854775807)
    (hd : ∀ i, i < 4 → (if i = j then v else if i = 0 then .slice (some ⟨xl, 0, none⟩) n cl else if i = 1 then .slice (some ⟨xs, 0, none⟩) n cs else if i = 2 then .int .i64 left else .bool dead) =
      (if i = 0 then .slice (some ⟨xl, 0, none⟩) n cl else if i = 1 then .slice (some ⟨xs, 0, none⟩) n cs else if i = 2 then .int .i64 l' else .bool d' : Value)) :
    RD (w.setCell ⟨xd, j, none⟩ v) xd xl xs n cl cs l' d' T L S V :=
  { h with
    disk := (h.disk.set j v).congr hd
    last := by
      obtain ⟨f, hf, hv⟩ := h.last
      exact ⟨f, hf.setOther (fun e => h.ne1 e.symm) _, hv⟩
    since := by
      obtain ⟨f, hf, hv⟩ := h.since
      exact ⟨f, hf.setOther (fun e => h.ne2 e.symm) _, hv⟩
    own := fun i hi => ownsRow_of_block (h.own i hi) (fun g hg => Below.heap_setCell _ _ _ _ (fun e => (h.ap1 i hi).1 (by rw [hg, e])))
    left0 := h0
    left1 := h1 }
theorem RD.setLeft (h : RD w xd xl xs n cl cs left dead T L S V) (l' : Int) (h0 : -1 ≤ l') (h1 : l' ≤ 9223372036854775807) : RD (w.setCell ⟨xd, 2, none⟩ (.int .i64 l')) xd xl xs n cl cs l' dead T L S V :=
  h.setDisk 2 _ l' dead h0 h1 (fun i hi => by
    match i, hi with
    | 0, _ => rfl
    | 1, _ => rfl
    | 2, _ => rfl
    | 3, _ => rfl)
theorem RD.setDead (h : RD w xd xl xs n cl cs left dead T L S V) (d' : Bool) : RD (w.setCell ⟨xd, 3, none⟩ (.bool d')) xd xl xs n cl cs left d' T L S V :=
  h.setDisk 3 _ left d' h.left0 h.left1 (fun i hi => by
    match i, hi with
    | 0, _ => rfl
    | 1, _ => rfl
    | 2, _ => rfl
    | 3, _ => rfl)

/-- the form of a sector's writes. -/
theorem RD.form (h : RD w xd xl xs n cl cs left dead T L S V) {i : Nat} (hi : i < n) : (∃ g cap, V i = .slice (some ⟨g, 0, none⟩) (S i).length cap ∧ g ≠ xl ∧ g ≠ xs ∧ g ≠ xd ∧ ∀ k s, (S i)[k]? = some s → w.cell? ⟨g, k, none⟩ = some (.string s)) ∨ (V i = .slice none 0 0 ∧ S i = []) := by
  rcases (h.own i hi).2 with ⟨h1, h2⟩ | ⟨g, cap, cur, hv, _, hh, _⟩
  · exact .inr ⟨h1, List.length_eq_zero_iff.1 h2⟩
  · refine .inl ⟨g, cap, hv, fun e => (h.ap1 i hi).2.1 (by rw [hv, e]; rfl), fun e => (h.ap1 i hi).2.2 (by rw [hv, e]; rfl), fun e => (h.ap1 i hi).1 (by rw [hv, e]; rfl), fun k s hs => ?_⟩
    have := (h.own i hi).cells (g := g) (by rw [hv]; rfl) k (.string s) (by simp [hs])
    rw [Addr.add_mid] at this
    simpa using this

/-- what n writes leave. -/
def setl (L : ByteArray) (S : List ByteArray) (m : Int) : ByteArray := if 0 < m then (S[(m - 1).toNat]?).getD L else L

theorem RD.settled (h : RD w xd xl xs n cl cs left dead T L S V) {i : Nat} (hi : i < n) (b : ByteArray) (fl : Nat → Value) (fs : Nat → Value)
    (t : Touch (fun k => k = xl ∨ k = xs) w w') (hl : w'.rowIs xl 9 cl fl) (hl' : ∀ j, j < n → fl j = .string (upd L i b j)) (hs : w'.rowIs xs 44 cs fs) (hs' : ∀ j, j < n → fs j = upd V i (.slice none 0 0) j) :
    RD w' xd xl xs n cl cs left dead T (upd L i b) (upd S i []) (upd V i (.slice none 0 0)) :=
  { h with
    disk := h.disk.of_block (t.block _ h.disk.lt (fun e => e.elim h.ne1 h.ne2))
    last := ⟨fl, hl, hl'⟩
    since := ⟨fs, hs, hs'⟩
    own := fun j hj => by
      by_cases e : j = i
      · subst e; rw [upd_same, upd_same]; exact World.ownsRow_nil _ _ _ _
      · rw [upd_ne _ _ _ e, upd_ne _ _ _ e]
        exact ownsRow_of_block (h.own j hj) (fun g hg => t.block g (ownsRow_lt (h.own j hj) hg) (fun e' => e'.elim (fun e' => (h.ap1 j hj).2.1 (by rw [hg, e'])) (fun e' => (h.ap1 j hj).2.2 (by rw [hg, e']))))
    tots := fun j hj => by
      by_cases e : j = i
      · subst e; rw [upd_same]; have := h.tots j hj; simp; omega
      · rw [upd_ne _ _ _ e]; exact h.tots j hj
    ap1 := fun j hj => by
      by_cases e : j = i
      · subst e; rw [upd_same]; simp [Value.ownBlock]
      · rw [upd_ne _ _ _ e]; exact h.ap1 j hj
    ap2 := fun j hj k hk hne g hg => by
      by_cases e : j = i
      · subst e; rw [upd_same] at hg; simp [Value.ownBlock] at hg
      · rw [upd_ne _ _ _ e] at hg
        by_cases e' : k = i
        · subst e'; rw [upd_same]; simp [Value.ownBlock]
        · rw [upd_ne _ _ _ e']; exact h.ap2 j hj k hk hne g hg }

theorem rd_settle (h : RD w xd xl xs n cl cs left dead T L S V) (hT : T ≤ 2199023255552) {i : Nat} (hi : i < n) (m : Int) (hm : m ≤ (S i).length) :
    Calls Try.prog 46 #[.pointer (some ⟨xd, 0, none⟩), .int .i64 (i : Int), .int .i64 m] w fun e w' => e = .returned (.tuple #[]) ∧ Touch (fun k => k = xl ∨ k = xs) w w' ∧
      RD w' xd xl xs n cl cs left dead T (upd L i (setl (L i) (S i) m)) (upd S i []) (upd V i (.slice none 0 0)) := by
  have htt := h.tots i hi
  obtain ⟨fl, hl, hl'⟩ := h.last
  obtain ⟨fs, hs, hs'⟩ := h.since
  by_cases h0 : 0 < m
  · obtain ⟨k, hk⟩ : ∃ k : Nat, m = (k : Int) + 1 := ⟨(m - 1).toNat, by omega⟩
    subst hk
    have hkl : k < (S i).length := by omega
    rcases h.form hi with ⟨g, cap, hv, hg1, hg2, hg3, hc⟩ | ⟨_, h0'⟩
    case inr => rw [h0'] at hkl; simp at hkl
    obtain ⟨s, hsk⟩ : ∃ s, (S i)[k]? = some s := ⟨(S i)[k], by simp [hkl]⟩
    have hv' := (h.cs_ hi).1
    rw [hv] at hv'
    refine (settle_pos xd xl xs i n cl cs cap g k (S i).length s _ w h.c0 h.c1 hi hv' hkl (hc k s hsk) (by omega) (h.cs_ hi).2 (h.cl_ hi).1 (h.cl_ hi).2 (Ne.symm h.ne1) h.ne3 (Ne.symm hg1)).mono ?_
    rintro e w' ⟨he, q, rfl⟩
    have hset : setl (L i) (S i) ((k : Int) + 1) = s := by
      unfold setl
      rw [if_pos (by omega), show ((k : Int) + 1 - 1).toNat = k from by omega, hsk]; rfl
    rw [hset]
    have t : Touch (fun k => k = xl ∨ k = xs) w (((w.drewN q).setCell ⟨xl, i, none⟩ (.string s)).setCell ⟨xs, i, none⟩ (.slice none 0 0)) :=
      (((Touch.refl _ w).drewN q).setCell (a := ⟨xl, i, none⟩) (fun _ => .inl rfl) _).setCell (a := ⟨xs, i, none⟩) (fun _ => .inr rfl) _
    refine ⟨he, t, ?_⟩
    refine h.settled hi s _ _ t (((hl : (w.drewN q).rowIs xl 9 cl fl).set i (.string s)).setOther (a := ⟨xs, i, none⟩) h.ne3 _) (fun j hj => ?_) (((hs : (w.drewN q).rowIs xs 44 cs fs).setOther (a := ⟨xl, i, none⟩) (Ne.symm h.ne3) _).set i (.slice none 0 0)) (fun j hj => ?_)
    · unfold upd
      split
      · rfl
      · exact hl' j hj
    · unfold upd
      split
      · rfl
      · exact hs' j hj
  · refine (settle_zero xd xs i n cs m _ w h.c1 hi (by omega) (h.cs_ hi).1 (h.cs_ hi).2).mono ?_
    rintro e w' ⟨he, rfl⟩
    have hset : setl (L i) (S i) m = L i := by unfold setl; rw [if_neg h0]
    rw [hset]
    have t : Touch (fun k => k = xl ∨ k = xs) w (w.setCell ⟨xs, i, none⟩ (.slice none 0 0)) := (Touch.refl (fun k => k = xl ∨ k = xs) w).setCell (a := ⟨xs, i, none⟩) (fun _ => .inr rfl) _
    refine ⟨he, t, ?_⟩
    refine h.settled hi (L i) _ _ t (hl.setOther (a := ⟨xs, i, none⟩) h.ne3 _) (fun j hj => ?_) (hs.set i (.slice none 0 0)) (fun j hj => ?_)
    · rw [hl' j hj]; congr 1; unfold upd; split
      · rename_i e; rw [e]
      · rfl
    · unfold upd
      split
      · rfl
      · exact hs' j hj
end
end Go.Proofs.Ytmecbbbopbndmaa
