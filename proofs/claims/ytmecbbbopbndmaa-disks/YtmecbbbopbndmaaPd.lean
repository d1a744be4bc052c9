import Derived.Test.YtmecbbbopbndmaaDw
namespace Go.Proofs.Ytmecbbbopbndmaa
open Go.RowKit

/-! the program's disk in memory -/
abbrev Run := ByteArray × Int
def rI (R : List Run) : List (List Int × Int) := R.map fun r => (bi r.1, r.2)
def runsC (R : List Run) : List Value := R.flatMap fun r => runC (bi r.1) r.2
def upd {α : Type} (f : Nat → α) (i : Nat) (v : α) : Nat → α := fun j => if j = i then v else f j
theorem upd_same {α : Type} (f : Nat → α) (i : Nat) (v : α) : upd f i v i = v := by simp [upd]
theorem upd_ne {α : Type} (f : Nat → α) (i : Nat) (v : α) {j : Nat} (h : j ≠ i) : upd f i v j = f j := by simp [upd, h]

def tot (R : List Run) : Int := (R.map fun r => r.2).sum
def expand (R : List Run) : List ByteArray := R.flatMap fun r => List.replicate r.2.toNat r.1
def goodR (R : List Run) : Prop := ∀ r ∈ R, r.1.size = 16 ∧ 1 ≤ r.2

theorem tot_cons (r : Run) (R : List Run) : tot (r :: R) = r.2 + tot R := by simp [tot]
theorem tot_append (R R' : List Run) : tot (R ++ R') = tot R + tot R' := by simp [tot]
theorem tot_nonneg : ∀ (R : List Run), goodR R → 0 ≤ tot R ∧ (R.length : Int) ≤ tot R
  | [], _ => by simp [tot]
  | r :: R, h => by
    have := tot_nonneg R (fun x hx => h x (List.mem_cons_of_mem _ hx))
    have h1 := (h r (List.mem_cons_self ..)).2
    rw [tot_cons]
    simp only [List.length_cons]
    omega
theorem mem_le_tot : ∀ (R : List Run), goodR R → ∀ r ∈ R, r.2 ≤ tot R
  | [], _, r, h => by cases h
  | x :: R, h, r, hr => by
    have h0 := tot_nonneg R (fun x hx => h x (List.mem_cons_of_mem _ hx))
    have h1 := (h x (List.mem_cons_self ..)).2
    rw [tot_cons]
    rcases List.mem_cons.1 hr with rfl | hr
    · omega
    · have := mem_le_tot R (fun x hx => h x (List.mem_cons_of_mem _ hx)) r hr
      omega
theorem expand_length : ∀ (R : List Run), goodR R → ((expand R).length : Int) = tot R
  | [], _ => by simp [expand, tot]
  | x :: R, h => by
    have h0 := expand_length R (fun x hx => h x (List.mem_cons_of_mem _ hx))
    have h1 := (h x (List.mem_cons_self ..)).2
    rw [tot_cons]
    have : expand (x :: R) = List.replicate x.2.toNat x.1 ++ expand R := by simp [expand]
    rw [this]
    simp only [List.length_append, List.length_replicate]
    omega

theorem runsC_len : ∀ (R : List Run), goodR R → (runsC R).length = R.length * 17
  | [], _ => by simp [runsC]
  | x :: R, h => by
    have h0 := runsC_len R (fun x hx => h x (List.mem_cons_of_mem _ hx))
    have : runsC (x :: R) = runC (bi x.1) x.2 ++ runsC R := by simp [runsC]
    rw [this, List.length_append, h0, runC_len (by rw [bi_len]; exact (h x (List.mem_cons_self ..)).1)]
    simp; omega

theorem runsC_get : ∀ (R : List Run), goodR R → ∀ j r, R[j]? = some r → ∀ t v, (runC (bi r.1) r.2)[t]? = some v → (runsC R)[j * 17 + t]? = some v
  | [], _, j, r, hj, _, _, _ => by simp at hj
  | x :: R, h, j, r, hj, t, v, hv => by
    have hl : (runC (bi x.1) x.2).length = 17 := runC_len (by rw [bi_len]; exact (h x (List.mem_cons_self ..)).1) _
    have hR : goodR R := fun x hx => h x (List.mem_cons_of_mem _ hx)
    have : runsC (x :: R) = runC (bi x.1) x.2 ++ runsC R := by simp [runsC]
    rw [this]
    cases j with
    | zero =>
      have : x = r := by simpa using hj
      subst this
      have ht := (List.getElem?_eq_some_iff.1 hv).1
      rw [List.getElem?_append_left (by omega)]
      simpa using hv
    | succ j =>
      rw [List.getElem?_append_right (by omega), hl]
      have := runsC_get R hR j r (by simpa using hj) t v hv
      rw [show (j + 1) * 17 + t - 17 = j * 17 + t from by omega]
      exact this

theorem runsC_append (R R' : List Run) : runsC (R ++ R') = runsC R ++ runsC R' := by simp [runsC]
theorem runsC_one (s : ByteArray) (t : Int) : runsC [(s, t)] = runC (bi s) t := by simp [runsC]

/-- what is laid for the places. -/
def pf (L : Nat → ByteArray) (V : Nat → Value) : Nat → Value := fun i => if i % 17 = 16 then V (i / 17) else (u8s (bi (L (i / 17))))[i % 17]?.getD undef
theorem pf_plc (L : Nat → ByteArray) (V : Nat → Value) (i : Nat) : ∀ k, pf L V k = plc (i * 17) (bi (L i)) (pf L V) k := by
  intro k
  unfold plc
  by_cases h : i * 17 ≤ k ∧ k < i * 17 + 16
  · rw [if_pos h]
    unfold pf
    have h1 : k / 17 = i := by omega
    have h2 : k % 17 = k - i * 17 := by omega
    rw [if_neg (by omega), h1, h2]
  · rw [if_neg h]
theorem pf_at (L : Nat → ByteArray) (V : Nat → Value) (i : Nat) : pf L V (i * 17 + 16) = V i := by
  unfold pf
  rw [if_pos (by omega), show (i * 17 + 16) / 17 = i from by omega]

structure PD (w : World) (bd bp n : Nat) (fuse : Int) (dead : Bool) (T : Int) (L : Nat → ByteArray) (R : Nat → List Run) (V : Nat → Value) : Prop where
  disk : w.rowIs bd 84 3 (fun i => if i = 0 then .slice (some ⟨bp, 0, none⟩) n n else if i = 1 then .int .i64 fuse else .bool dead)
  row : w.rowIs bp 81 (n * 17) (pf L V)
  own : ∀ i, i < n → w.ownsRow 0 122 17 (V i) (R i).length (runsC (R i))
  len : ∀ i, i < n → (L i).size = 16
  good : ∀ i, i < n → goodR (R i)
  tots : ∀ i, i < n → tot (R i) ≤ T
  ne : bd ≠ bp
  ap1 : ∀ i, i < n → (V i).ownBlock ≠ some bd ∧ (V i).ownBlock ≠ some bp
  ap2 : ∀ i, i < n → ∀ j, j < n → i ≠ j → ∀ g, (V i).ownBlock = some g → (V j).ownBlock ≠ some g
  fuse0 : -9223372036854775808 ≤ fuse
  fuse1 : fuse ≤ 9223372036854775807

/-- the blocks of such a disk. -/
def PF (bd bp n : Nat) (V : Nat → Value) (k : Nat) : Prop := k = bd ∨ k = bp ∨ ∃ i, i < n ∧ (V i).ownBlock = some k

theorem ownsRow_of_block {w w' : World} {base : Nat} {e : TypeId} {size : Nat} {v : Value} {n : Nat} {xs : List Value} (h : w.ownsRow base e size v n xs) (hb : ∀ g, v.ownBlock = some g → w'.heap[g]? = w.heap[g]?) : w'.ownsRow base e size v n xs := by
  refine ⟨h.1, ?_⟩
  rcases h.2 with h2 | ⟨g, cap, cur, rfl, hg, hh, r⟩
  · exact .inl h2
  · exact .inr ⟨g, cap, cur, rfl, hg, (hb g rfl).trans hh, r⟩
theorem ownsRow_lt {w : World} {base : Nat} {e : TypeId} {size : Nat} {v : Value} {n : Nat} {xs : List Value} (h : w.ownsRow base e size v n xs) {g : Nat} (hg : v.ownBlock = some g) : g < w.heap.size := by
  rcases h.2 with ⟨rfl, _⟩ | ⟨g', cap, cur, rfl, _, hh, _⟩
  · simp [Value.ownBlock] at hg
  · have : g' = g := by simpa [Value.ownBlock] using hg
    subst this
    exact (Array.getElem?_eq_some_iff.1 hh).1

section
variable {w w' : World} {bd bp n : Nat} {fuse : Int} {dead : Bool} {T : Int} {L : Nat → ByteArray} {R : Nat → List Run} {V : Nat → Value}

theorem PD.lt (h : PD w bd bp n fuse dead T L R V) {k : Nat} (hk : PF bd bp n V k) : k < w.heap.size := by
  rcases hk with rfl | rfl | ⟨i, hi, hg⟩
  · exact h.disk.lt
  · exact h.row.lt
  · exact ownsRow_lt (h.own i hi) hg

theorem PD.frame {F : Nat → Prop} (h : PD w bd bp n fuse dead T L R V) (t : Touch F w w') (hF : ∀ k, PF bd bp n V k → ¬ F k) : PD w' bd bp n fuse dead T L R V where
  disk := h.disk.of_block (t.block _ h.disk.lt (hF _ (.inl rfl)))
  row := h.row.of_block (t.block _ h.row.lt (hF _ (.inr (.inl rfl))))
  own := fun i hi => ownsRow_of_block (h.own i hi) (fun g hg => t.block g (ownsRow_lt (h.own i hi) hg) (hF _ (.inr (.inr ⟨i, hi, hg⟩))))
  len := h.len
  good := h.good
  tots := h.tots
  ne := h.ne
  ap1 := h.ap1
  ap2 := h.ap2
  fuse0 := h.fuse0
  fuse1 := h.fuse1

theorem PD.still (h : PD w bd bp n fuse dead T L R V) (t : Touch (fun _ => False) w w') : PD w' bd bp n fuse dead T L R V := h.frame t (fun _ _ h => h)

theorem PD.more (h : PD w bd bp n fuse dead T L R V) {T' : Int} (hT : T ≤ T') : PD w bd bp n fuse dead T' L R V :=
  { h with tots := fun i hi => Int.le_trans (h.tots i hi) hT }

theorem PD.c0 (h : PD w bd bp n fuse dead T L R V) : w.cell? ⟨bd, 0, none⟩ = some (.slice (some ⟨bp, 0, none⟩) n n) := h.disk.cell (i := 0) (by omega)
theorem PD.c1 (h : PD w bd bp n fuse dead T L R V) : w.cell? ⟨bd, 1, none⟩ = some (.int .i64 fuse) := h.disk.cell (i := 1) (by omega)
theorem PD.c2 (h : PD w bd bp n fuse dead T L R V) : w.cell? ⟨bd, 2, none⟩ = some (.bool dead) := h.disk.cell (i := 2) (by omega)

theorem PD.setFuse (h : PD w bd bp n fuse dead T L R V) (f : Int) (h0 : -9223372036854775808 ≤ f) (h1 : f ≤ 9223372036854775807) : PD (w.setCell ⟨bd, 1, none⟩ (.int .i64 f)) bd bp n f dead T L R V where
  disk := (h.disk.set 1 (.int .i64 f)).congr (fun i hi => by
    match i, hi with
    | 0, _ => rfl
    | 1, _ => rfl
    | 2, _ => rfl)
  row := h.row.setOther (fun e => h.ne e.symm) _
  own := fun i hi => ownsRow_of_block (h.own i hi) (fun g hg => Below.heap_setCell _ _ _ _ (fun e => (h.ap1 i hi).1 (by rw [hg, e])))
  len := h.len
  good := h.good
  tots := h.tots
  ne := h.ne
  ap1 := h.ap1
  ap2 := h.ap2
  fuse0 := h0
  fuse1 := h1

theorem PD.setDead (h : PD w bd bp n fuse dead T L R V) (d : Bool) : PD (w.setCell ⟨bd, 2, none⟩ (.bool d)) bd bp n fuse d T L R V where
  disk := (h.disk.set 2 (.bool d)).congr (fun i hi => by
    match i, hi with
    | 0, _ => rfl
    | 1, _ => rfl
    | 2, _ => rfl)
  row := h.row.setOther (fun e => h.ne e.symm) _
  own := fun i hi => ownsRow_of_block (h.own i hi) (fun g hg => Below.heap_setCell _ _ _ _ (fun e => (h.ap1 i hi).1 (by rw [hg, e])))
  len := h.len
  good := h.good
  tots := h.tots
  ne := h.ne
  ap1 := h.ap1
  ap2 := h.ap2
  fuse0 := h.fuse0
  fuse1 := h.fuse1

theorem PD.touchDisk (w : World) (bd j : Nat) (v : Value) : Touch (fun k => k = bd) w (w.setCell ⟨bd, j, none⟩ v) := (Touch.refl (fun k => k = bd) w).setCell (a := ⟨bd, j, none⟩) (fun _ => rfl) v

theorem PD.range (h : PD w bd bp n fuse dead T L R V) {i : Nat} (hi : i < n) : w.rangeAt bp (i * 17) (u8s (bi (L i))) :=
  rowIs_range (h.row.congr (fun k _ => pf_plc L V i k)) (by rw [bi_len]; exact h.len i hi) (by omega)
theorem PD.cw (h : PD w bd bp n fuse dead T L R V) {i : Nat} (hi : i < n) : w.cell? ⟨bp, i * 17 + 16, none⟩ = some (V i) := by
  rw [h.row.cell (by omega), pf_at]
theorem PD.runs (h : PD w bd bp n fuse dead T L R V) {i : Nat} (hi : i < n) {g cap : Nat} (hv : V i = .slice (some ⟨g, 0, none⟩) (R i).length cap) : ∀ j r, (R i)[j]? = some r → w.rangeAt g (j * 17) (runC (bi r.1) r.2) := by
  intro j r hj t v hv'
  have := (h.own i hi).cells (g := g) (by rw [hv]; rfl) (j * 17 + t) v (runsC_get (R i) (h.good i hi) j r hj t v hv')
  rw [Addr.add_mid] at this
  simpa using this
/-- the writes' slice: its form. -/
theorem PD.form (h : PD w bd bp n fuse dead T L R V) {i : Nat} (hi : i < n) : (∃ g cap, V i = .slice (some ⟨g, 0, none⟩) (R i).length cap ∧ g < w.heap.size ∧ g ≠ bp ∧ g ≠ bd) ∨ (V i = .slice none 0 0 ∧ R i = []) := by
  rcases (h.own i hi).2 with ⟨h1, h2⟩ | ⟨g, cap, cur, hv, _, hh, _⟩
  · exact .inr ⟨h1, List.length_eq_zero_iff.1 h2⟩
  · refine .inl ⟨g, cap, hv, (Array.getElem?_eq_some_iff.1 hh).1, fun e => (h.ap1 i hi).2 (by rw [hv, e]; rfl), fun e => (h.ap1 i hi).1 (by rw [hv, e]; rfl)⟩
end

end Go.Proofs.Ytmecbbbopbndmaa
