import Derived.Test.YtmecbbbopbndmaaPl
namespace Go.Proofs.Ytmecbbbopbndmaa
open Go.RowKit
section
variable {w w' : World} {bd bp n : Nat} {fuse : Int} {dead : Bool} {T : Int} {L : Nat → ByteArray} {R : Nat → List Run} {V : Nat → Value}

/-- one write more. -/
def addRun (R : List Run) (s : ByteArray) : List Run := match R.getLast? with
  | some r => if r.1 = s then R.dropLast ++ [(r.1, r.2 + 1)] else R ++ [(s, 1)]
  | none => [(s, 1)]

theorem expand_append (R R' : List Run) : expand (R ++ R') = expand R ++ expand R' := by simp [expand]
theorem expand_one (s : ByteArray) : expand [(s, 1)] = [s] := by simp [expand]

theorem addRun_nil (s : ByteArray) : addRun [] s = [(s, 1)] := rfl
theorem addRun_same (R' : List Run) (s : ByteArray) (t : Int) : addRun (R' ++ [(s, t)]) s = R' ++ [(s, t + 1)] := by simp [addRun]
theorem addRun_diff (R' : List Run) (r : Run) (s : ByteArray) (h : r.1 ≠ s) : addRun (R' ++ [r]) s = R' ++ [r] ++ [(s, 1)] := by simp [addRun, h]

theorem addRun_spec (R : List Run) (s : ByteArray) (hg : goodR R) (hs : s.size = 16) : expand (addRun R s) = expand R ++ [s] ∧ goodR (addRun R s) ∧ tot (addRun R s) = tot R + 1 := by
  rcases List.eq_nil_or_concat R with rfl | ⟨R', r, hR⟩
  · rw [addRun_nil, expand_one]
    refine ⟨by simp [expand], fun x hx => ?_, by simp [tot]⟩
    have : x = (s, 1) := by simpa using hx
    subst this; exact ⟨hs, by simp⟩
  · rw [List.concat_eq_append] at hR
    subst hR
    have hr := hg r (by simp)
    by_cases e : r.1 = s
    · obtain ⟨b, t⟩ := r
      simp only at e hr
      subst e
      rw [addRun_same]
      refine ⟨?_, fun x hx => ?_, ?_⟩
      · rw [expand_append, expand_append, List.append_assoc]
        congr 1
        simp only [expand, List.flatMap_cons, List.flatMap_nil, List.append_nil]
        rw [show (t + 1).toNat = t.toNat + 1 from by omega, List.replicate_succ']
      · rcases List.mem_append.1 hx with h | h
        · exact hg x (by simp [h])
        · have : x = (b, t + 1) := by simpa using h
          subst this; exact ⟨hr.1, by simp only; omega⟩
      · simp [tot]; omega
    · rw [addRun_diff R' r s e]
      refine ⟨by rw [expand_append, expand_one], fun x hx => ?_, by rw [tot_append]; simp [tot]⟩
      rcases List.mem_append.1 hx with h | h
      · exact hg x h
      · have : x = (s, 1) := by simpa using h
        subst this; exact ⟨hs, by simp⟩

theorem runsC_set (R' : List Run) (s : ByteArray) (t t' : Int) (hg : goodR (R' ++ [(s, t)])) : (runsC (R' ++ [(s, t)])).set (R'.length * 17 + 16) (.int .i64 t') = runsC (R' ++ [(s, t')]) := by
  have hl := runsC_len R' (fun x hx => hg x (by simp [hx]))
  rw [runsC_append, runsC_append, runsC_one, runsC_one, List.set_append_right _ _ (by omega), hl]
  congr 1
  rw [show R'.length * 17 + 16 - R'.length * 17 = 16 from by omega]
  exact runC_set (by rw [bi_len]; exact (hg (s, t) (by simp)).1) t t'

/-- the places behind a write to place i. -/
theorem PD.wrote (h : PD w bd bp n fuse dead T L R V) {i : Nat} (hi : i < n) (s : ByteArray) (hs : s.size = 16) (v' : Value)
    (t : Touch (fun k => k = bp ∨ (V i).ownBlock = some k) w w') (hr : w'.rowIs bp 81 (n * 17) (fun k => if k = i * 17 + 16 then v' else pf L V k))
    (ho : w'.ownsRow 0 122 17 v' (addRun (R i) s).length (runsC (addRun (R i) s))) (hb : ∀ g, v'.ownBlock = some g → (V i).ownBlock = some g ∨ w.heap.size ≤ g) :
    PD w' bd bp n fuse dead (T + 1) L (upd R i (addRun (R i) s)) (upd V i v') := by
  have hsp := addRun_spec (R i) s (h.good i hi) hs
  exact
    { disk := h.disk.of_block (t.block _ h.disk.lt (fun e => e.elim h.ne (h.ap1 i hi).1))
      row := hr.congr (fun k hk => by
        by_cases h1 : k = i * 17 + 16
        · rw [if_pos h1]; subst h1; rw [pf_at, upd_same]
        · rw [if_neg h1]
          unfold pf
          by_cases h2 : k % 17 = 16
          · rw [if_pos h2, if_pos h2, upd_ne _ _ _ (by omega)]
          · rw [if_neg h2, if_neg h2])
      own := fun j hj => by
        by_cases e : j = i
        · subst e; rw [upd_same, upd_same]; exact ho
        · rw [upd_ne _ _ _ e, upd_ne _ _ _ e]
          exact ownsRow_of_block (h.own j hj) (fun g hg => t.block g (ownsRow_lt (h.own j hj) hg) (fun e' => e'.elim (fun e' => (h.ap1 j hj).2 (by rw [hg, e'])) (fun e' => h.ap2 j hj i hi e g hg e')))
      len := h.len
      good := fun j hj => by
        by_cases e : j = i
        · subst e; rw [upd_same]; exact hsp.2.1
        · rw [upd_ne _ _ _ e]; exact h.good j hj
      tots := fun j hj => by
        by_cases e : j = i
        · subst e; rw [upd_same, hsp.2.2]; have := h.tots j hj; omega
        · rw [upd_ne _ _ _ e]; have := h.tots j hj; omega
      ne := h.ne
      ap1 := fun j hj => by
        by_cases e : j = i
        · subst e; rw [upd_same]
          have hd1 := h.disk.lt
          have hd2 := h.row.lt
          constructor
          · intro e1
            rcases hb _ e1 with e2 | e2
            · exact (h.ap1 j hj).1 e2
            · omega
          · intro e1
            rcases hb _ e1 with e2 | e2
            · exact (h.ap1 j hj).2 e2
            · omega
        · rw [upd_ne _ _ _ e]; exact h.ap1 j hj
      ap2 := fun j hj k hk hne g hg => by
        by_cases e : j = i
        · subst e
          rw [upd_same] at hg
          rw [upd_ne _ _ _ (fun e => hne e.symm)]
          rcases hb _ hg with e2 | e2
          · exact h.ap2 j hj k hk hne g e2
          · intro e3
            have := ownsRow_lt (h.own k hk) e3
            omega
        · rw [upd_ne _ _ _ e] at hg
          by_cases e' : k = i
          · subst e'; rw [upd_same]
            intro e3
            rcases hb _ e3 with e2 | e2
            · exact h.ap2 j hj k hk hne g hg e2
            · have := ownsRow_lt (h.own j hj) hg
              omega
          · rw [upd_ne _ _ _ e']; exact h.ap2 j hj k hk hne g hg
      fuse0 := h.fuse0
      fuse1 := h.fuse1 }

/-- what write leaves, in the append's words. -/
theorem wrote_app {b o N : Nat} {v v' : Value} {A B : Obj} {m : Nat} {w1 : World} {f : Nat → Value} {e : TypeId} {k : Nat} {xs : List Value} (hrow : w.rowIs b 81 N f) (hne : v.ownBlock ≠ some b)
    (hg : (((w.alloc A).alloc B).drewN m).grownBy w1 v.ownBlock) (ho : w1.ownsRow 0 e 17 v' k xs) (hb : v'.ownBlock ≠ some b) :
    Touch (fun k => k = b ∨ v.ownBlock = some k) w (w1.setCell ⟨b, o, none⟩ v') ∧ (w1.setCell ⟨b, o, none⟩ v').rowIs b 81 N (fun j => if j = o then v' else f j) ∧ (w1.setCell ⟨b, o, none⟩ v').ownsRow 0 e 17 v' k xs := by
  have t0 : Touch (fun k => k = b ∨ v.ownBlock = some k) w w1 := ((((Touch.refl _ w).alloc A).alloc B).drewN m).grown hg (fun k hk _ => .inr hk)
  refine ⟨t0.setCell (a := ⟨b, o, none⟩) (fun _ => .inl rfl) _, ?_, ?_⟩
  · have h1 : w1.rowIs b 81 N f := by
      refine hrow.of_block ?_
      rw [hg.block b (by have := hrow.lt; simp; omega) (fun e => hne e.symm)]
      show ((w.alloc A).alloc B).heap[b]? = _
      rw [Below.heap_alloc _ _ _ (by have := hrow.lt; simp; omega), Below.heap_alloc _ _ _ hrow.lt]
    exact h1.set o v'
  · exact ownsRow_of_block ho (fun g hg => Below.heap_setCell _ _ _ _ (fun e => hb (by rw [hg, e])))

theorem pd_write (h : PD w bd bp n fuse dead T L R V) (hT : T ≤ 2199023255552) {i : Nat} (hi : i < n) (s : ByteArray) (hs : s.size = 16) :
    Calls Try.prog 43 #[.pointer (some ⟨bp, i * 17, none⟩), .agg (u8s (bi s)).toArray] w fun e w' => e = .returned (.tuple #[]) ∧ Touch (fun k => k = bp ∨ (V i).ownBlock = some k) w w' ∧
      ∃ v', PD w' bd bp n fuse dead (T + 1) L (upd R i (addRun (R i) s)) (upd V i v') ∧ (∀ g, v'.ownBlock = some g → (V i).ownBlock = some g ∨ w.heap.size ≤ g) := by
  have hc := h.cw hi
  have hf : w.frozen? ⟨bp, i * 17 + 16, none⟩ = false := h.row.frozen _
  have ht := tot_nonneg (R i) (h.good i hi)
  have htt := h.tots i hi
  have hap := h.ap1 i hi
  have hbl : (bi s).length = 16 := by rw [bi_len]; exact hs
  have hown := h.own i hi
  rcases List.eq_nil_or_concat (R i) with h0 | ⟨R', r, hR⟩
  · have hfin : ∀ (a : Option Addr) (c : Nat), V i = .slice a 0 c → Calls Try.prog 43 #[.pointer (some ⟨bp, i * 17, none⟩), .agg (u8s (bi s)).toArray] w fun e w' => e = .returned (.tuple #[]) ∧ Touch (fun k => k = bp ∨ (V i).ownBlock = some k) w w' ∧
      ∃ v', PD w' bd bp n fuse dead (T + 1) L (upd R i (addRun (R i) s)) (upd V i v') ∧ (∀ g, v'.ownBlock = some g → (V i).ownBlock = some g ∨ w.heap.size ≤ g) := by
      intro a c hv
      rw [hv] at hc
      rw [h0, hv] at hown
      refine (write_first bp (i * 17) a c _ (bi s) w hbl hc hf hown (by rw [← hv]; exact hap.2)).mono ?_
      rintro e w' ⟨he, g, cap, m, w1, rfl, ho, hg, hgb, hglt⟩
      have hbg : ∀ g', (Value.slice (some ⟨g, 0, none⟩) 1 cap).ownBlock = some g' → (V i).ownBlock = some g' ∨ w.heap.size ≤ g' := by
        intro g' hg'
        have : g = g' := by simpa [Value.ownBlock] using hg'
        subst this
        rw [hv]; exact hgb
      have hnb : (Value.slice (some ⟨g, 0, none⟩) 1 cap).ownBlock ≠ some bp := by
        intro e'
        rcases hbg _ e' with e2 | e2
        · exact hap.2 e2
        · have := h.row.lt; omega
      rw [← hv] at hg
      obtain ⟨t, hr, ho'⟩ := wrote_app (o := i * 17 + 16) h.row hap.2 hg ho hnb
      refine ⟨he, t, _, h.wrote hi s hs _ t hr ?_ hbg, hbg⟩
      rw [h0, addRun_nil]
      simpa [runsC] using ho'
    rcases h.form hi with ⟨g, cap, hv, _⟩ | ⟨hv, _⟩
    · exact hfin _ cap (by rw [hv, h0]; rfl)
    · exact hfin _ 0 hv
  · rw [List.concat_eq_append] at hR
    have hlen : (R i).length = R'.length + 1 := by rw [hR]; simp
    have hgr := h.good i hi
    rcases h.form hi with ⟨g, cap, hv, hg, hgp, hgd⟩ | ⟨_, h0⟩
    case inr => rw [hR] at h0; simp at h0
    have hr := h.runs hi hv R'.length r (by rw [hR]; simp)
    have hrs : r.1.size = 16 := (hgr r (by rw [hR]; simp)).1
    have hr1 : 1 ≤ r.2 := (hgr r (by rw [hR]; simp)).2
    have hr2 : r.2 ≤ tot (R i) := mem_le_tot _ hgr r (by rw [hR]; simp)
    have hbl' : (bi r.1).length = 16 := by rw [bi_len]; exact hrs
    rw [hv, hlen] at hc
    by_cases e : r.1 = s
    · obtain ⟨b, tt⟩ := r
      simp only at e hr hrs hr1 hr2 hbl'
      subst e
      have hcell := runC_last hr hbl'
      refine (write_same bp (i * 17) g R'.length cap tt (bi b) w hbl' hc (runC_range hr) hcell ?_ (by omega) (by omega) (by omega)).mono ?_
      · rw [hv] at hown
        exact hown.frozenAt _
      · rintro e w' ⟨he, m, rfl⟩
        have t : Touch (fun k => k = bp ∨ (V i).ownBlock = some k) w (((w.alloc (.cells (u8s (bi b)).toArray 78)).drewN m).setCell ⟨g, R'.length * 17 + 16, none⟩ (.int .i64 (tt + 1))) :=
          (((Touch.refl _ w).alloc _).drewN m).setCell (a := ⟨g, R'.length * 17 + 16, none⟩) (fun _ => .inr (by rw [hv]; rfl)) _
        refine ⟨he, t, V i, h.wrote hi b hs (V i) t ?_ ?_ (fun g hg => .inl hg), fun g hg => .inl hg⟩
        · have h1 : (((w.alloc (.cells (u8s (bi b)).toArray 78)).drewN m).setCell ⟨g, R'.length * 17 + 16, none⟩ (.int .i64 (tt + 1))).rowIs bp 81 (n * 17) (pf L V) :=
            ((h.row.alloc (.cells (u8s (bi b)).toArray 78)) : ((w.alloc (.cells (u8s (bi b)).toArray 78)).drewN m).rowIs bp 81 (n * 17) (pf L V)).setOther (a := ⟨g, R'.length * 17 + 16, none⟩) (fun e => hgp e.symm) _
          refine h1.congr (fun k _ => ?_)
          split
          · rename_i h2; subst h2; exact pf_at L V i
          · rfl
        · rw [hv] at hown ⊢
          have h2 : ((w.alloc (.cells (u8s (bi b)).toArray 78)).drewN m).ownsRow 0 122 17 (.slice (some ⟨g, 0, none⟩) (R i).length cap) (R i).length (runsC (R i)) := hown.alloc _
          have h3 := h2.stored (R'.length * 17 + 16) (.int .i64 (tt + 1))
          rw [hR] at hgr
          rw [hR, runsC_set R' b tt (tt + 1) hgr] at h3
          rw [hR, addRun_same]
          simpa using h3.1
    · rw [hv, hlen] at hown
      refine (write_diff bp (i * 17) g R'.length cap _ (bi r.1) (bi s) w hbl hbl' (fun e' => e (bi_inj e')) hc (runC_range hr) (by omega) hf hown (by rw [← hlen, ← hv]; exact hap.2)).mono ?_
      rintro e' w' ⟨he, g', cap', m, w1, rfl, ho, hgw, hgb, hglt⟩
      have hbg : ∀ k, (Value.slice (some ⟨g', 0, none⟩) (R'.length + 1 + 1) cap').ownBlock = some k → (V i).ownBlock = some k ∨ w.heap.size ≤ k := by
        intro k hk
        have : g' = k := by simpa [Value.ownBlock] using hk
        subst this
        rw [hv, hlen]; exact hgb
      have hnb : (Value.slice (some ⟨g', 0, none⟩) (R'.length + 1 + 1) cap').ownBlock ≠ some bp := by
        intro e'
        rcases hbg _ e' with e2 | e2
        · exact hap.2 e2
        · have := h.row.lt; omega
      rw [← hlen, ← hv] at hgw
      obtain ⟨t, hr', ho'⟩ := wrote_app (o := i * 17 + 16) h.row hap.2 hgw ho hnb
      refine ⟨he, t, _, h.wrote hi s hs _ t hr' ?_ hbg, hbg⟩
      rw [hR, addRun_diff R' r s e, runsC_append, runsC_one, ← hR]
      simpa [hlen] using ho'
end
end Go.Proofs.Ytmecbbbopbndmaa
