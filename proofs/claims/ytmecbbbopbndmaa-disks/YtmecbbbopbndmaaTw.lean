import Derived.Test.YtmecbbbopbndmaaBo
namespace Go.Proofs.Ytmecbbbopbndmaa
open Go.RowKit

/-- what the two disks are: numbers of blocks, and what they hold. -/
structure Two (Z : Nat → Prop) (W0 w : World) (bd bp n xd xl xs cl cs : Nat) (T fuse : Int) (dead : Bool) (L : Nat → ByteArray) (R : Nat → List Run) (V : Nat → Value)
    (T' left : Int) (dead' : Bool) (L' : Nat → ByteArray) (S' : Nat → List ByteArray) (V' : Nat → Value) : Prop where
  p : PD w bd bp n fuse dead T L R V
  r : RD w xd xl xs n cl cs left dead' T' L' S' V'
  dj : ∀ k, PF bd bp n V k → ¬ RF xd xl xs n V' k
  pg : ∀ k, PF bd bp n V k → ¬ Z k
  rg : ∀ k, RF xd xl xs n V' k → ¬ Z k
  zl : ∀ k, Z k → k < W0.heap.size
  bl : Touch (fun k => ¬ Z k) W0 w

section
variable {Z : Nat → Prop} {W0 w w' : World} {bd bp n xd xl xs cl cs : Nat} {T fuse : Int} {dead : Bool} {L : Nat → ByteArray} {R : Nat → List Run} {V : Nat → Value}
    {T' left : Int} {dead' : Bool} {L' : Nat → ByteArray} {S' : Nat → List ByteArray} {V' : Nat → Value}
    {T1 fuse1 : Int} {dead1 : Bool} {L1 : Nat → ByteArray} {R1 : Nat → List Run} {S1 : Nat → List ByteArray} {V1 : Nat → Value}

theorem Two.stepP {F : Nat → Prop} (h : Two Z W0 w bd bp n xd xl xs cl cs T fuse dead L R V T' left dead' L' S' V') (t : Touch F w w') (hF : ∀ k, F k → PF bd bp n V k)
    (hp : PD w' bd bp n fuse1 dead1 T1 L1 R1 V1) (hV : ∀ k, PF bd bp n V1 k → PF bd bp n V k ∨ w.heap.size ≤ k) :
    Two Z W0 w' bd bp n xd xl xs cl cs T1 fuse1 dead1 L1 R1 V1 T' left dead' L' S' V' where
  p := hp
  r := h.r.frame t (fun k hk hf => h.dj k (hF k hf) hk)
  dj := fun k hk hr => (hV k hk).elim (fun e => h.dj k e hr) (fun e => by have := h.r.lt hr; omega)
  pg := fun k hk => (hV k hk).elim (h.pg k) (fun e hz => by have := h.zl k hz; have := h.bl.size; omega)
  rg := h.rg
  zl := h.zl
  bl := h.bl.trans' t (fun k _ hk => h.pg k (hF k hk))

theorem Two.stepR {F : Nat → Prop} (h : Two Z W0 w bd bp n xd xl xs cl cs T fuse dead L R V T' left dead' L' S' V') (t : Touch F w w') (hF : ∀ k, F k → RF xd xl xs n V' k)
    (hr : RD w' xd xl xs n cl cs fuse1 dead1 T1 L1 S1 V1) (hV : ∀ k, RF xd xl xs n V1 k → RF xd xl xs n V' k ∨ w.heap.size ≤ k) :
    Two Z W0 w' bd bp n xd xl xs cl cs T fuse dead L R V T1 fuse1 dead1 L1 S1 V1 where
  p := h.p.frame t (fun k hk hf => h.dj k hk (hF k hf))
  r := hr
  dj := fun k hk hr => (hV k hr).elim (fun e => h.dj k hk e) (fun e => by have := h.p.lt hk; omega)
  pg := h.pg
  rg := fun k hk => (hV k hk).elim (h.rg k) (fun e hz => by have := h.zl k hz; have := h.bl.size; omega)
  zl := h.zl
  bl := h.bl.trans' t (fun k _ hk => h.rg k (hF k hk))

theorem Two.still (h : Two Z W0 w bd bp n xd xl xs cl cs T fuse dead L R V T' left dead' L' S' V') (t : Touch (fun _ => False) w w') : Two Z W0 w' bd bp n xd xl xs cl cs T fuse dead L R V T' left dead' L' S' V' where
  p := h.p.still t
  r := h.r.still t
  dj := h.dj
  pg := h.pg
  rg := h.rg
  zl := h.zl
  bl := h.bl.trans' t (fun _ _ hk => hk.elim)

theorem PF_upd {i : Nat} {v : Value} {k : Nat} (h : PF bd bp n (upd V i v) k) : PF bd bp n V k ∨ v.ownBlock = some k := by
  rcases h with h | h | ⟨j, hj, hk⟩
  · exact .inl (.inl h)
  · exact .inl (.inr (.inl h))
  · by_cases e : j = i
    · subst e; rw [upd_same] at hk; exact .inr hk
    · rw [upd_ne _ _ _ e] at hk; exact .inl (.inr (.inr ⟨j, hj, hk⟩))
theorem RF_upd {i : Nat} {v : Value} {k : Nat} (h : RF xd xl xs n (upd V i v) k) : RF xd xl xs n V k ∨ v.ownBlock = some k := by
  rcases h with h | h | h | ⟨j, hj, hk⟩
  · exact .inl (.inl h)
  · exact .inl (.inr (.inl h))
  · exact .inl (.inr (.inr (.inl h)))
  · by_cases e : j = i
    · subst e; rw [upd_same] at hk; exact .inr hk
    · rw [upd_ne _ _ _ e] at hk; exact .inl (.inr (.inr (.inr ⟨j, hj, hk⟩)))
theorem PF_sub (hs : ∀ i, i < n → V1 i = V i ∨ V1 i = .slice none 0 0) {k : Nat} (h : PF bd bp n V1 k) : PF bd bp n V k := by
  rcases h with h | h | ⟨j, hj, hk⟩
  · exact .inl h
  · exact .inr (.inl h)
  · rcases hs j hj with e | e
    · rw [e] at hk; exact .inr (.inr ⟨j, hj, hk⟩)
    · rw [e] at hk; simp [Value.ownBlock] at hk
theorem RF_sub (hs : ∀ i, i < n → V1 i = V i ∨ V1 i = .slice none 0 0) {k : Nat} (h : RF xd xl xs n V1 k) : RF xd xl xs n V k := by
  rcases h with h | h | h | ⟨j, hj, hk⟩
  · exact .inl h
  · exact .inr (.inl h)
  · exact .inr (.inr (.inl h))
  · rcases hs j hj with e | e
    · rw [e] at hk; exact .inr (.inr (.inr ⟨j, hj, hk⟩))
    · rw [e] at hk; simp [Value.ownBlock] at hk
theorem below_V (j : Nat) (f : Nat → Value) (hf : ∀ i, f i = V i ∨ f i = .slice none 0 0) : ∀ i, i < n → below j f V i = V i ∨ below j f V i = .slice none 0 0 := by
  intro i _
  unfold below
  split
  · exact hf i
  · exact .inl rfl
end

theorem setCell_twice (w : World) (a : Addr) (u v : Value) : (w.setCell a u).setCell a v = w.setCell a v := by
  simp only [World.setCell]
  congr 1
  apply Array.ext_getElem?
  intro i
  simp only [Array.getElem?_modify]
  by_cases h : a.block = i
  · simp only [h, if_true, Option.map_map]
    congr 1
    funext o
    cases o <;> simp
    split <;> simp
  · simp [h]

/-- both disks hold the same. -/
def Bo (Z : Nat → Prop) (W0 w : World) (bd xd n : Nat) (T : Int) : Prop := ∃ bp xl xs cl cs fuse dead L R V V',
  Two Z W0 w bd bp n xd xl xs cl cs T fuse dead L R V T (norm fuse) dead L (fun i => expand (R i)) V'

theorem Bo.still {Z : Nat → Prop} {W0 w w' : World} {bd xd n : Nat} {T : Int} (h : Bo Z W0 w bd xd n T) (t : Touch (fun _ => False) w w') : Bo Z W0 w' bd xd n T := by
  obtain ⟨bp, xl, xs, cl, cs, fuse, dead, L, R, V, V', h⟩ := h
  exact ⟨bp, xl, xs, cl, cs, fuse, dead, L, R, V, V', h.still t⟩
theorem Bo.more {Z : Nat → Prop} {W0 w : World} {bd xd n : Nat} {T T' : Int} (h : Bo Z W0 w bd xd n T) (hT : T ≤ T') : Bo Z W0 w bd xd n T' := by
  obtain ⟨bp, xl, xs, cl, cs, fuse, dead, L, R, V, V', h⟩ := h
  exact ⟨bp, xl, xs, cl, cs, fuse, dead, L, R, V, V', { h with p := h.p.more hT, r := h.r.more hT }⟩
theorem Bo.bl {Z : Nat → Prop} {W0 w : World} {bd xd n : Nat} {T : Int} (h : Bo Z W0 w bd xd n T) : Touch (fun k => ¬ Z k) W0 w := by
  obtain ⟨bp, xl, xs, cl, cs, fuse, dead, L, R, V, V', h⟩ := h
  exact h.bl
theorem Bo.c0 {Z : Nat → Prop} {W0 w : World} {bd xd n : Nat} {T : Int} (h : Bo Z W0 w bd xd n T) : ∃ a c, w.cell? ⟨xd, 0, none⟩ = some (.slice a n c) := by
  obtain ⟨bp, xl, xs, cl, cs, fuse, dead, L, R, V, V', h⟩ := h
  exact ⟨_, _, h.r.c0⟩

section
variable {Z : Nat → Prop} {W0 w : World} {bd xd n : Nat} {T : Int}

/-- draws and new blocks turn nothing of it. -/
def Calm (M : World → Prop) : Prop := ∀ w w', M w → Touch (fun _ => False) w w' → M w'

/-- one block more to be left alone. -/
theorem Bo.rebase (h : Bo Z W0 w bd xd n T) {k : Nat} (hk : w.heap.size ≤ k) {w1 : World} (hk1 : k < w1.heap.size) (t : Touch (fun _ => False) w w1) : Bo (fun i => Z i ∨ i = k) w1 w1 bd xd n T := by
  obtain ⟨bp, xl, xs, cl, cs, fuse, dead, L, R, V, V', h⟩ := h
  have h1 := h.still t
  refine ⟨bp, xl, xs, cl, cs, fuse, dead, L, R, V, V', ⟨h1.p, h1.r, h1.dj, fun i hi hz => ?_, fun i hi hz => ?_, fun i hz => ?_, Touch.refl _ _⟩⟩
  · rcases hz with hz | hz
    · exact h.pg i hi hz
    · have := h.p.lt hi; omega
  · rcases hz with hz | hz
    · exact h.rg i hi hz
    · have := h.r.lt hi; omega
  · rcases hz with hz | hz
    · have := h.zl i hz; have := h1.bl.size; omega
    · omega
theorem Bo.back {k : Nat} {w1 w2 : World} {T1 T' : Int} (h : Bo (fun i => Z i ∨ i = k) w1 w2 bd xd n T1) (h0 : Bo Z W0 w bd xd n T) (t : Touch (fun _ => False) w w1) (hT : T1 ≤ T') : Bo Z W0 w2 bd xd n T' := by
  obtain ⟨bp, xl, xs, cl, cs, fuse, dead, L, R, V, V', h⟩ := h
  obtain ⟨_, _, _, _, _, _, _, _, _, _, _, h0⟩ := h0
  exact Bo.more ⟨bp, xl, xs, cl, cs, fuse, dead, L, R, V, V', ⟨h.p, h.r, h.dj, fun i hi hz => h.pg i hi (.inl hz), fun i hi hz => h.rg i hi (.inl hz), h0.zl, (h0.bl.trans' t (fun _ _ h => h.elim)).trans' h.bl (fun i hi hn hz => hn (.inl hz))⟩⟩ hT

/-- Read on both. -/
theorem bo_read (h : Bo Z W0 w bd xd n T) (hT : T ≤ 2199023255552) (i : Int) : ∃ (s : ByteArray) (c : Int) (M : World → Prop), Calm M ∧ (∀ w', M w' → Touch (fun k => ¬ Z k) W0 w') ∧
    (Calls Try.prog 11 #[.pointer (some ⟨bd, 0, none⟩), .int .i64 i] w fun e w' => e = .returned (.tuple #[.string s, .int .i64 c]) ∧ M w') ∧
    ∀ w', M w' → Calls Try.prog 12 #[.pointer (some ⟨xd, 0, none⟩), .int .i64 i] w' fun e w'' => e = .returned (.tuple #[.string s, .int .i64 c]) ∧ Bo Z W0 w'' bd xd n T := by
  obtain ⟨bp, xl, xs, cl, cs, fuse, dead, L, R, V, V', h⟩ := h
  have hcalm : Calm (fun w => Two Z W0 w bd bp n xd xl xs cl cs T fuse dead L R V T (norm fuse) dead L (fun i => expand (R i)) V') := fun w w' h t => h.still t
  cases dead with
  | true =>
    refine ⟨⟨#[]⟩, 2, _, hcalm, fun _ h => h.bl, (read_dead bd i w h.p.c2).mono ?_, fun w' h' => (rread_dead xd i w' h'.r.c3).mono ?_⟩
    · rintro e w' ⟨he, rfl⟩; exact ⟨he, h⟩
    · rintro e w'' ⟨he, rfl⟩; exact ⟨he, _, _, _, _, _, _, _, _, _, _, _, h'⟩
  | false =>
    by_cases hi : 0 ≤ i ∧ i < n
    · obtain ⟨k, rfl⟩ : ∃ k : Nat, i = k := ⟨i.toNat, by omega⟩
      have hk : k < n := by omega
      have hg := h.p.good k hk
      refine ⟨curS (L k) (expand (R k)), 0, _, hcalm, fun _ h => h.bl, ?_, fun w' h' => (rd_read h'.r hT hk).mono ?_⟩
      · have hn := pd_now h.p hT hk
        rw [cur_eq _ _ hg] at hn
        have hsz : (curS (L k) (expand (R k))).size = 16 := by
          rw [← cur_eq _ _ hg]
          unfold curB
          cases hx : (R k).getLast? with
          | none => exact h.p.len k hk
          | some r => exact (hg r (List.mem_of_getLast? hx)).1
        refine (read_ok bd bp k n n _ w h.p.c0 h.p.c2 hk hsz hn).mono ?_
        rintro e w' ⟨he, hb⟩
        exact ⟨he, h.still (Touch.of_below hb _)⟩
      · rintro e w'' ⟨he, rfl⟩; exact ⟨he, _, _, _, _, _, _, _, _, _, _, _, h'⟩
    · refine ⟨⟨#[]⟩, 1, _, hcalm, fun _ h => h.bl, (read_range bd i _ n n w h.p.c0 h.p.c2 hi).mono ?_, fun w' h' => (rread_range xd i _ n cl w' h'.r.c0 h'.r.c3 (by omega)).mono ?_⟩
      · rintro e w' ⟨he, rfl⟩; exact ⟨he, h⟩
      · rintro e w'' ⟨he, rfl⟩; exact ⟨he, _, _, _, _, _, _, _, _, _, _, _, h'⟩

/-- Write on both. -/
theorem bo_write (h : Bo Z W0 w bd xd n T) (hT : T ≤ 2199023255552) (i : Int) (s : ByteArray) : ∃ (c : Int) (M : World → Prop), Calm M ∧ (∀ w', M w' → Touch (fun k => ¬ Z k) W0 w') ∧
    (Calls Try.prog 14 #[.pointer (some ⟨bd, 0, none⟩), .int .i64 i, .string s] w fun e w' => e = .returned (.int .i64 c) ∧ M w') ∧
    ∀ w', M w' → Calls Try.prog 15 #[.pointer (some ⟨xd, 0, none⟩), .int .i64 i, .string s] w' fun e w'' => e = .returned (.int .i64 c) ∧ Bo Z W0 w'' bd xd n (T + 1) := by
  obtain ⟨bp, xl, xs, cl, cs, fuse, dead, L, R, V, V', h⟩ := h
  have hcalm : Calm (fun w => Two Z W0 w bd bp n xd xl xs cl cs T fuse dead L R V T (norm fuse) dead L (fun i => expand (R i)) V') := fun w w' h t => h.still t
  have hmore : ∀ w', Two Z W0 w' bd bp n xd xl xs cl cs T fuse dead L R V T (norm fuse) dead L (fun i => expand (R i)) V' → Bo Z W0 w' bd xd n (T + 1) := fun w' h' =>
    Bo.more ⟨_, _, _, _, _, _, _, _, _, _, _, h'⟩ (by omega)
  cases dead with
  | true =>
    refine ⟨2, _, hcalm, fun _ h => h.bl, (dwrite_dead bd i s w h.p.c2).mono ?_, fun w' h' => (rwrite_dead xd i s w' h'.r.c3).mono ?_⟩
    · rintro e w' ⟨he, rfl⟩; exact ⟨he, h⟩
    · rintro e w'' ⟨he, rfl⟩; exact ⟨he, hmore _ h'⟩
  | false =>
    by_cases hi : 0 ≤ i ∧ i < n
    case neg =>
      refine ⟨1, _, hcalm, fun _ h => h.bl, (dwrite_range bd i s _ n n w h.p.c0 h.p.c2 hi).mono ?_, fun w' h' => (rwrite_range xd i s _ n cl w' h'.r.c0 h'.r.c3 (by omega)).mono ?_⟩
      · rintro e w' ⟨he, rfl⟩; exact ⟨he, h⟩
      · rintro e w'' ⟨he, rfl⟩; exact ⟨he, hmore _ h'⟩
    by_cases hs : s.size = 16
    case neg =>
      refine ⟨1, _, hcalm, fun _ h => h.bl, (dwrite_len bd i s _ n n w h.p.c0 h.p.c2 hi hs).mono ?_, fun w' h' => (rwrite_len xd i s _ n cl w' h'.r.c0 h'.r.c3 hi.1 hi.2 hs).mono ?_⟩
      · rintro e w' ⟨he, rfl⟩; exact ⟨he, h⟩
      · rintro e w'' ⟨he, rfl⟩; exact ⟨he, hmore _ h'⟩
    by_cases hf : fuse = 0
    · subst hf
      refine ⟨2, fun w => Two Z W0 w bd bp n xd xl xs cl cs T 0 true L R V T (norm 0) false L (fun i => expand (R i)) V', fun w w' h t => h.still t, fun _ h => h.bl,
        (dwrite_fuse bd i s _ n n w h.p.c0 h.p.c1 h.p.c2 (h.p.disk.frozen 2) hi hs).mono ?_, fun w' h' => (rwrite_fuse xd i s _ n cl w' h'.r.c0 h'.r.c2 h'.r.c3 (h'.r.disk.frozen 3) hi.1 hi.2 hs).mono ?_⟩
      · rintro e w' ⟨he, rfl⟩
        exact ⟨he, h.stepP (PD.touchDisk w bd 2 _) (fun k hk => .inl hk) (h.p.setDead true) (fun k hk => .inl hk)⟩
      · rintro e w'' ⟨he, rfl⟩
        have h2 := h'.stepR ((Touch.refl (fun k => k = xd) w').setCell (a := ⟨xd, 3, none⟩) (fun _ => rfl) _) (fun k hk => .inl hk) (h'.r.setDead true) (fun k hk => .inl hk)
        exact ⟨he, Bo.more ⟨_, _, _, _, _, _, _, _, _, _, _, h2⟩ (by omega)⟩
    · obtain ⟨k, rfl⟩ : ∃ k : Nat, i = k := ⟨i.toNat, by omega⟩
      have hk : k < n := by omega
      have hf1 := h.p.fuse1
      have hf0 := h.p.fuse0
      refine ⟨0, fun w => ∃ V1, Two Z W0 w bd bp n xd xl xs cl cs (T + 1) (less fuse) false L (upd R k (addRun (R k) s)) V1 T (norm fuse) false L (fun i => expand (R i)) V', fun w w' ⟨V1, h⟩ t => ⟨V1, h.still t⟩, fun _ ⟨_, h⟩ => h.bl, ?_, fun w' ⟨V1, h'⟩ => ?_⟩
      · obtain ⟨w1, hw1, h1, ht1, hsz⟩ : ∃ w1, w1 = (if 0 < fuse then w.setCell ⟨bd, 1, none⟩ (.int .i64 (fuse - 1)) else w) ∧ Two Z W0 w1 bd bp n xd xl xs cl cs T (less fuse) false L R V T (norm fuse) false L (fun i => expand (R i)) V' ∧ Touch (fun k => k = bd) w w1 ∧ w1.heap.size = w.heap.size := by
          refine ⟨_, rfl, ?_, ?_, ?_⟩
          · unfold less
            split
            · exact h.stepP (PD.touchDisk w bd 1 _) (fun k hk => .inl hk) (h.p.setFuse _ (by omega) (by omega)) (fun k hk => .inl hk)
            · exact h
          · split
            · exact PD.touchDisk w bd 1 _
            · exact Touch.refl _ _
          · split <;> simp
        have hpf : ∀ k', (k' = bp ∨ (V k).ownBlock = some k') → PF bd bp n V k' := fun k' hk' => hk'.elim (fun e => .inr (.inl e)) (fun e => .inr (.inr ⟨k, hk, e⟩))
        refine (dwrite_ok bd bp k n n s fuse (fun k' => k' = bp ∨ (V k).ownBlock = some k') (fun w2 => ∃ V1, Two Z W0 w2 bd bp n xd xl xs cl cs (T + 1) (less fuse) false L (upd R k (addRun (R k) s)) V1 T (norm fuse) false L (fun i => expand (R i)) V') w w1 h.p.c0 h.p.c1 h.p.c2 (h.p.disk.frozen 1) hk hs hf hf1 hw1
          (fun e => e.elim h.p.ne (h.p.ap1 k hk).1) (fun k' hk' => h.p.lt (hpf k' hk')) (fun m => ?_)).mono ?_
        · have h2 := h1.still (((Touch.refl (fun _ => False) w1).alloc (.cells (u8s (bi s)).toArray 78)).drewN m)
          refine (pd_write h2.p hT hk s hs).mono ?_
          rintro e w2 ⟨he, t, v', hp, hv⟩
          exact ⟨he, t, _, h2.stepP t hpf hp (fun k' hk' => (PF_upd hk').elim .inl (fun e => (hv _ e).elim (fun e => .inl (.inr (.inr ⟨k, hk, e⟩))) .inr))⟩
        · rintro e w2 ⟨he, t, hq⟩; exact ⟨he, hq⟩
      · have hfn : norm fuse ≠ 0 := fun e => hf ((norm_zero fuse).1 e)
        refine (rd_write h'.r hT hk s hs hfn).mono ?_
        rintro e w2 ⟨he, t, v', hr, hv⟩
        have hpf : ∀ k', (k' = xd ∨ k' = xs ∨ (V' k).ownBlock = some k') → RF xd xl xs n V' k' := fun k' hk' => hk'.elim .inl (fun e => e.elim (fun e => .inr (.inr (.inl e))) (fun e => .inr (.inr (.inr ⟨k, hk, e⟩))))
        have h3 := h'.stepR t hpf hr (fun k' hk' => (RF_upd hk').elim .inl (fun e => (hv _ e).elim (fun e => .inl (.inr (.inr (.inr ⟨k, hk, e⟩)))) .inr))
        refine ⟨he, bp, xl, xs, cl, cs, less fuse, false, L, upd R k (addRun (R k) s), V1, upd V' k v', ?_⟩
        have e1 : (fun i => expand (upd R k (addRun (R k) s) i)) = upd (fun i => expand (R i)) k (expand (R k) ++ [s]) := by
          funext j
          by_cases e : j = k
          · subst e; rw [upd_same, upd_same, (addRun_spec _ s (h.p.good j hk) hs).1]
          · rw [upd_ne _ _ _ e, upd_ne _ _ _ e]
        rw [norm_less fuse hf, e1]
        exact h3

/-- Sync on both. -/
theorem bo_sync (h : Bo Z W0 w bd xd n T) (hT : T ≤ 2199023255552) (hn : n ≤ 200) : ∃ (c : Int) (M : World → Prop), Calm M ∧ (∀ w', M w' → Touch (fun k => ¬ Z k) W0 w') ∧
    (Calls Try.prog 16 #[.pointer (some ⟨bd, 0, none⟩)] w fun e w' => e = .returned (.int .i64 c) ∧ M w') ∧
    ∀ w', M w' → Calls Try.prog 17 #[.pointer (some ⟨xd, 0, none⟩)] w' fun e w'' => e = .returned (.int .i64 c) ∧ Bo Z W0 w'' bd xd n T := by
  obtain ⟨bp, xl, xs, cl, cs, fuse, dead, L, R, V, V', h⟩ := h
  cases dead with
  | true =>
    refine ⟨2, fun w => Two Z W0 w bd bp n xd xl xs cl cs T fuse true L R V T (norm fuse) true L (fun i => expand (R i)) V', fun w w' h t => h.still t, fun _ h => h.bl, (sync_dead bd w h.p.c2).mono ?_, fun w' h' => (rsync_dead xd w' h'.r.c3).mono ?_⟩
    · rintro e w' ⟨he, rfl⟩; exact ⟨he, h⟩
    · rintro e w'' ⟨he, rfl⟩; exact ⟨he, _, _, _, _, _, _, _, _, _, _, _, h'⟩
  | false =>
    by_cases hf : fuse = 0
    · subst hf
      refine ⟨2, fun w => Two Z W0 w bd bp n xd xl xs cl cs T 0 true L R V T (norm 0) false L (fun i => expand (R i)) V', fun w w' h t => h.still t, fun _ h => h.bl,
        (sync_fuse bd w h.p.c1 h.p.c2 (h.p.disk.frozen 2)).mono ?_, fun w' h' => (rsync_fuse xd w' h'.r.c2 h'.r.c3 (h'.r.disk.frozen 3)).mono ?_⟩
      · rintro e w' ⟨he, rfl⟩
        exact ⟨he, h.stepP (PD.touchDisk w bd 2 _) (fun k hk => .inl hk) (h.p.setDead true) (fun k hk => .inl hk)⟩
      · rintro e w'' ⟨he, rfl⟩
        have h2 := h'.stepR ((Touch.refl (fun k => k = xd) w').setCell (a := ⟨xd, 3, none⟩) (fun _ => rfl) _) (fun k hk => .inl hk) (h'.r.setDead true) (fun k hk => .inl hk)
        exact ⟨he, _, _, _, _, _, _, _, _, _, _, _, h2⟩
    · refine ⟨0, fun w => Two Z W0 w bd bp n xd xl xs cl cs T (less fuse) false (below n (fun i => keepB (L i) (R i) 9223372036854775807) L) (below n (fun _ => []) R) (below n (fun _ => .slice none 0 0) V) T (norm fuse) false L (fun i => expand (R i)) V',
        fun w w' h t => h.still t, fun _ h => h.bl, (sync_loop h.p hT hn hf).mono ?_, fun w' h' => ?_⟩
      · rintro e w' ⟨he, t, hp⟩
        exact ⟨he, h.stepP t (fun k hk => hk.elim .inl (fun e => .inr (.inl e))) hp (fun k hk => .inl (PF_sub (below_V n _ (fun _ => .inr rfl)) hk))⟩
      · have hfn : norm fuse ≠ 0 := fun e => hf ((norm_zero fuse).1 e)
        refine (rsync_loop h'.r hT hn hfn).mono ?_
        rintro e w2 ⟨he, t, hr⟩
        have h3 := h'.stepR t (fun k hk => hk.elim .inl (fun e => e.elim (fun e => .inr (.inl e)) (fun e => .inr (.inr (.inl e))))) hr (fun k hk => .inl (RF_sub (below_V n _ (fun _ => .inr rfl)) hk))
        refine ⟨he, bp, xl, xs, cl, cs, less fuse, false, below n (fun i => setl (L i) (expand (R i)) (expand (R i)).length) L, below n (fun _ => []) R, below n (fun _ => .slice none 0 0) V, below n (fun _ => .slice none 0 0) V', ?_⟩
        have e1 : (fun i => expand (below n (fun _ => []) R i)) = below n (fun _ => []) (fun i => expand (R i)) := by
          funext j; unfold below; split <;> rfl
        have e2 : below n (fun i => keepB (L i) (R i) 9223372036854775807) L = below n (fun i => setl (L i) (expand (R i)) (expand (R i)).length) L := by
          funext j; unfold below; split
          · rename_i hj
            have htt := h.p.tots j hj
            have hel := expand_length (R j) (h.p.good j hj)
            show keepB (L j) (R j) _ = setl _ _ _
            rw [keep_eq _ _ _ (h.p.good j hj), capN_max _ (by omega)]
          · rfl
        rw [e2] at h3
        rw [norm_less fuse hf, e1]
        exact h3

/-- Fuse on both. -/
theorem bo_fuse (h : Bo Z W0 w bd xd n T) (m : Int) (hm0 : -9223372036854775808 ≤ m) (hm1 : m ≤ 9223372036854775807) : ∃ (M : World → Prop), Calm M ∧ (∀ w', M w' → Touch (fun k => ¬ Z k) W0 w') ∧
    (Calls Try.prog 18 #[.pointer (some ⟨bd, 0, none⟩), .int .i64 m] w fun e w' => e = .returned (.tuple #[]) ∧ M w') ∧
    ∀ w', M w' → Calls Try.prog 19 #[.pointer (some ⟨xd, 0, none⟩), .int .i64 m] w' fun e w'' => e = .returned (.tuple #[]) ∧ Bo Z W0 w'' bd xd n T := by
  obtain ⟨bp, xl, xs, cl, cs, fuse, dead, L, R, V, V', h⟩ := h
  refine ⟨fun w => Two Z W0 w bd bp n xd xl xs cl cs T m dead L R V T (norm fuse) dead L (fun i => expand (R i)) V', fun w w' h t => h.still t, fun _ h => h.bl, (fuse_any bd _ m w h.p.c1 (h.p.disk.frozen 1)).mono ?_, fun w' h' => (rfuse_any xd _ m w' h'.r.c2 (h'.r.disk.frozen 2)).mono ?_⟩
  · rintro e w' ⟨he, rfl⟩
    exact ⟨he, h.stepP (PD.touchDisk w bd 1 _) (fun k hk => .inl hk) (h.p.setFuse m hm0 hm1) (fun k hk => .inl hk)⟩
  · rintro e w'' ⟨he, hw⟩
    by_cases hm : m < 0
    · rw [if_pos hm] at hw
      subst hw
      have hx : ((w'.setCell ⟨xd, 2, none⟩ (.int .i64 m)).setCell ⟨xd, 2, none⟩ (.int .i64 (-1))) = w'.setCell ⟨xd, 2, none⟩ (.int .i64 (-1)) := setCell_twice _ _ _ _
      rw [hx]
      have h2 := h'.stepR ((Touch.refl (fun k => k = xd) w').setCell (a := ⟨xd, 2, none⟩) (fun _ => rfl) (.int .i64 (-1))) (fun k hk => .inl hk) (h'.r.setLeft (-1) (by decide) (by decide)) (fun k hk => .inl hk)
      have hnm : norm m = -1 := by unfold norm; rw [if_pos hm]
      refine ⟨he, bp, xl, xs, cl, cs, m, dead, L, R, V, V', ?_⟩
      rw [hnm]
      exact h2
    · rw [if_neg hm] at hw
      subst hw
      have h2 := h'.stepR ((Touch.refl (fun k => k = xd) w').setCell (a := ⟨xd, 2, none⟩) (fun _ => rfl) (.int .i64 m)) (fun k hk => .inl hk) (h'.r.setLeft m (by omega) hm1) (fun k hk => .inl hk)
      have hnm : norm m = m := by unfold norm; rw [if_neg hm]
      refine ⟨he, bp, xl, xs, cl, cs, m, dead, L, R, V, V', ?_⟩
      rw [hnm]
      exact h2

/-- Crash on both; the first list lies in a new block. -/
theorem bo_crash {w2 : World} (h : Bo Z W0 w bd xd n T) (hT : T ≤ 2199023255552) (hn : n ≤ 200) (K : List Int) (hb : Below w.heap.size w w2) (hsz : w.heap.size < w2.heap.size)
    (hc : ∀ q x, K[q]? = some x → w2.cell? ⟨w.heap.size, q, none⟩ = some (.int .i64 x)) (hKb : ∀ x ∈ K, -9223372036854775808 ≤ x ∧ x ≤ 9223372036854775807) (hKl : (K.length : Int) ≤ 35184372088832)
    (kb ko c : Nat) (a : Option Addr) (hI : Ints W0 a kb ko K) (hkb : Z kb) : ∃ (M : World → Prop), Calm M ∧ (∀ w', M w' → Touch (fun k => ¬ Z k) W0 w') ∧
    (Calls Try.prog 21 #[.pointer (some ⟨bd, 0, none⟩), .slice (some ⟨w.heap.size, 0, none⟩) K.length K.length] w2 fun e w' => e = .returned (.tuple #[]) ∧ M w') ∧
    ∀ w', M w' → Calls Try.prog 22 #[.pointer (some ⟨xd, 0, none⟩), .slice a K.length c] w' fun e w'' => e = .returned (.tuple #[]) ∧ Bo Z W0 w'' bd xd n T ∧
      (∀ q x, K[q]? = some x → w''.cell? ⟨w.heap.size, q, none⟩ = some (.int .i64 x)) := by
  obtain ⟨bp, xl, xs, cl, cs, fuse, dead, L, R, V, V', h⟩ := h
  have h2 := h.still (Touch.of_below hb _)
  have hnp : ∀ k, PF bd bp n V k → k ≠ w.heap.size := fun k hk e => by have := h.p.lt hk; omega
  have hnr : ∀ k, RF xd xl xs n V' k → k ≠ w.heap.size := fun k hk e => by have := h.r.lt hk; omega
  refine ⟨fun w' => Two Z W0 w' bd bp n xd xl xs cl cs T (-1) false (below n (fun i => keepB (L i) (R i) (K.getD (nz R i) 0)) L) (below n (fun _ => []) R) (below n (crV R V) V) T (norm fuse) dead L (fun i => expand (R i)) V' ∧ Touch (fun k => k = bd ∨ k = bp) w2 w',
    fun w w' h t => ⟨h.1.still t, h.2.trans' t (fun _ _ h => h.elim)⟩, fun _ h => h.1.bl, ?_, fun w' ⟨h', t'⟩ => ?_⟩
  · refine (crash_any K w.heap.size 0 K.length (some ⟨w.heap.size, 0, none⟩) h2.p hT hn (Nat.le_refl _) (by omega) (fun _ => rfl) (fun q x hq => by rw [Nat.zero_add]; exact hc q x hq) hKb
      (fun e => hnp bd (.inl rfl) e.symm) (fun e => hnp bp (.inr (.inl rfl)) e.symm) hsz).mono ?_
    rintro e w' ⟨he, t, hp⟩
    refine ⟨he, h2.stepP t (fun k hk => hk.elim .inl (fun e => .inr (.inl e))) hp (fun k hk => .inl (PF_sub (below_V n _ (fun i => ?_)) hk)), t⟩
    unfold crV; split
    · exact .inl rfl
    · exact .inr rfl
  · have hw' : ∀ q x, K[q]? = some x → w'.cell? ⟨kb, ko + q, none⟩ = some (.int .i64 x) := fun q x hq => by
      rw [h'.bl.cell (a := ⟨kb, ko + q, none⟩) (h.zl kb hkb) (fun hz => hz hkb)]; exact hI.cell q x hq
    have hne : ∀ k, RF xd xl xs n V' k → kb ≠ k := fun k hk e => by subst e; exact h.rg kb hk hkb
    refine (rcrash_any K kb ko c a h'.r hT hn hI.at_ hw' (hne _ (.inl rfl)) (hne _ (.inr (.inl rfl))) (hne _ (.inr (.inr (.inl rfl)))) (Nat.lt_of_lt_of_le (h.zl kb hkb) h'.bl.size)).mono ?_
    rintro e w'' ⟨he, t, hr⟩
    have h3 := h'.stepR t (fun k hk => hk.elim .inl (fun e => e.elim (fun e => .inr (.inl e)) (fun e => .inr (.inr (.inl e))))) hr (fun k hk => .inl (RF_sub (below_V n _ (fun i => by unfold rcV; split; exact .inl rfl; exact .inr rfl)) hk))
    refine ⟨he, ⟨bp, xl, xs, cl, cs, -1, false, below n (fun i => setl (L i) (expand (R i)) (capN (K.getD (nz (fun i => expand (R i)) i) 0) (expand (R i)).length)) L, below n (fun _ => []) R, below n (crV R V) V, below n (rcV (fun i => expand (R i)) V') V', ?_⟩, fun q x hq => ?_⟩
    · have e1 : (fun i => expand (below n (fun _ => []) R i)) = below n (fun _ => []) (fun i => expand (R i)) := by
        funext j; unfold below; split <;> rfl
      have e2 : below n (fun i => keepB (L i) (R i) (K.getD (nz R i) 0)) L = below n (fun i => setl (L i) (expand (R i)) (capN (K.getD (nz (fun i => expand (R i)) i) 0) (expand (R i)).length)) L := by
        funext j; unfold below; split
        · rename_i hj
          show keepB (L j) (R j) _ = setl _ _ _
          rw [keep_eq _ _ _ (h.p.good j hj), nz_eq R n h.p.good j (by omega)]
        · rfl
      have e3 : norm (-1) = -1 := by decide
      rw [e2] at h3
      rw [e1, e3]
      exact h3
    · have hs' : w.heap.size < w'.heap.size := Nat.lt_of_lt_of_le hsz t'.size
      rw [t.cell (a := ⟨w.heap.size, q, none⟩) hs' (fun e => e.elim (fun e => hnr _ (.inl rfl) e.symm) (fun e => e.elim (fun e => hnr _ (.inr (.inl rfl)) e.symm) (fun e => hnr _ (.inr (.inr (.inl rfl))) e.symm))),
        t'.cell (a := ⟨w.heap.size, q, none⟩) hsz (fun e => e.elim (fun e => hnp _ (.inl rfl) e.symm) (fun e => hnp _ (.inr (.inl rfl)) e.symm))]
      exact hc q x hq
end
end Go.Proofs.Ytmecbbbopbndmaa
