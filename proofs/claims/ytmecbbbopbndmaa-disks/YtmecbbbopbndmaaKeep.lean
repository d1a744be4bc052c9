import Derived.Test.YtmecbbbopbndmaaWr
import Derived.Deep.LoopGhost
namespace Go.Proofs.Ytmecbbbopbndmaa
open Go.RowKit

theorem size70 : (Try.prog.info? 122).map (·.size) = some 17 := by kernel_rfl
theorem zero70 : (Try.prog.info? 122).map (fun i => (i.zero, i.size)) = some (some (.agg (Array.replicate 16 (.int .u8 0) ++ #[.int .i64 0])), 17) := by kernel_rfl

/-- what the first n writes leave. -/
def keepGo (L : List Int) : List (List Int × Int) → Int → List Int
  | [], _ => L
  | (b, t) :: rs, n => if n ≤ 0 then L else keepGo b rs (n - t)

/-- a row with the bytes L from o on. -/
def plc (o : Nat) (L : List Int) (f : Nat → Value) : Nat → Value := fun i => if o ≤ i ∧ i < o + 16 then (u8s L)[i - o]?.getD undef else f i

theorem rowIs_setCells {b : Nat} {t : TypeId} {n : Nat} : ∀ (vs : List Value) (o : Nat) (w : World) (f : Nat → Value), w.rowIs b t n f →
    (w.setCells b o vs).rowIs b t n (fun i => if o ≤ i ∧ i < o + vs.length then vs[i - o]?.getD undef else f i) := by
  intro vs
  induction vs with
  | nil => intro o w f h; exact h.congr (fun i _ => by rw [if_neg (by simp)])
  | cons v r ih =>
    intro o w f h
    have := ih (o + 1) _ _ (h.set o v)
    refine World.rowIs.congr this (fun i _ => ?_)
    by_cases h1 : o + 1 ≤ i ∧ i < o + 1 + r.length
    · rw [if_pos h1, if_pos (by simp; omega)]
      rw [show i - o = (i - (o + 1)) + 1 from by omega, List.getElem?_cons_succ]
    · rw [if_neg h1]
      by_cases h2 : i = o
      · subst h2; rw [if_pos rfl, if_pos (by simp)]; simp
      · rw [if_neg h2, if_neg (by simp; omega)]

theorem rowIs_range {w : World} {b : Nat} {t : TypeId} {n o : Nat} {L : List Int} {f : Nat → Value} (h : w.rowIs b t n (plc o L f)) (hl : L.length = 16) (hn : o + 16 ≤ n) : w.rangeAt b o (u8s L) := fun j v hv => by
  have hj : j < 16 := by have := (List.getElem?_eq_some_iff.1 hv).1; simpa [hl] using this
  rw [h.cell (by omega : o + j < n)]
  unfold plc
  rw [if_pos (by omega), Nat.add_sub_cancel_left, hv]; rfl

theorem rowIs_there {w : World} {b : Nat} {t : TypeId} {n o m : Nat} {f : Nat → Value} (h : w.rowIs b t n f) (hn : o + m ≤ n) : w.there b o m := fun j hj =>
  ⟨by rw [h.cell (by omega)]; rfl, h.frozen _⟩

theorem plc_plc (o : Nat) (L L' : List Int) (f : Nat → Value) (hl : L'.length = 16) : (fun i => if o ≤ i ∧ i < o + (u8s L').length then (u8s L')[i - o]?.getD undef else plc o L f i) = plc o L' f := by
  funext i
  unfold plc
  simp only [List.length_map, hl]
  by_cases h : o ≤ i ∧ i < o + 16
  · rw [if_pos h, if_pos h]
  · rw [if_neg h, if_neg h, if_neg h]


theorem range_append {w : World} {b o : Nat} {xs ys : List Value} (h : w.rangeAt b o (xs ++ ys)) : w.rangeAt b o xs := fun j v hv => h j v (by
  have hj := (List.getElem?_eq_some_iff.1 hv).1
  rw [List.getElem?_append_left hj]; exact hv)

theorem runC_range {w : World} {b o : Nat} {xs : List Int} {t : Int} (h : w.rangeAt b o (runC xs t)) : w.rangeAt b o (u8s xs) := range_append h
theorem runC_last {w : World} {b o : Nat} {xs : List Int} {t : Int} (h : w.rangeAt b o (runC xs t)) (hx : xs.length = 16) : w.cell? ⟨b, o + 16, none⟩ = some (.int .i64 t) :=
  h 16 _ (by unfold runC; rw [List.getElem?_append_right (by simp [hx])]; simp [hx])

theorem Touch.range {F : Nat → Prop} {w w' : World} (h : Touch F w w') {b o : Nat} {cs : List Value} (hr : w.rangeAt b o cs) (hlt : b < w.heap.size) (hf : ¬ F b) : w'.rangeAt b o cs := fun j v hv => by
  rw [h.cell (a := ⟨b, o + j, none⟩) hlt hf]; exact hr j v hv

set_option maxRecDepth 100000 in
set_option maxHeartbeats 2000000 in
theorem keep_any (b o N g cap : Nat) (a : Option Addr) (R : List (List Int × Int)) (L : List Int) (n : Int) (f : Nat → Value) (w : World)
    (hrow : w.rowIs b 81 N (plc o L f)) (hN : o + 17 ≤ N) (hL : L.length = 16) (hv : f (o + 16) = .slice a R.length cap) (ha : R ≠ [] → a = some ⟨g, 0, none⟩) (hgb : g ≠ b) (hglt : R ≠ [] → g < w.heap.size)
    (hrun : ∀ j r, R[j]? = some r → w.rangeAt g (j * 17) (runC r.1 r.2)) (hR : ∀ r ∈ R, r.1.length = 16 ∧ 1 ≤ r.2 ∧ r.2 ≤ 2305843009213693952) (hlen : (R.length : Int) ≤ 2305843009213693952)
    (hn0 : -9223372036854775808 ≤ n) (hn1 : n ≤ 9223372036854775807) :
    Calls Try.prog 47 #[.pointer (some ⟨b, o, none⟩), .int .i64 n] w fun e w' => e = .returned (.tuple #[]) ∧ Touch (fun k => k = b) w w' ∧
      w'.rowIs b 81 N (fun i => if i = o + 16 then .slice none 0 0 else plc o (keepGo L R n) f i) := by
  have hb : b < w.heap.size := hrow.lt
  have hc : w.cell? ⟨b, o + 16, none⟩ = some (.slice a R.length cap) := by
    rw [hrow.cell (by omega)]; unfold plc; rw [if_neg (by omega), hv]
  have HR := hd hR
  have Hrun := hd hrun
  have Hv := hd hv
  have Ha := hd ha
  have HL := hd hL
  have hz := (zero_of_info zero70).1
  clear hR hrun hv ha hL
  go_enter Try.func47, Try.ntmps47
  go_wp2_with fail
  go_loopg [1, 5, 11] R.length (fun k s1 s5 s11 wr => ∃ (j : Nat) (L' : List Int) (m : Int), j + k = R.length ∧ s11 = .int .i64 j ∧ s1 = .int .i64 m ∧ L'.length = 16 ∧ keepGo L R n = keepGo L' (R.drop j) m ∧
    -9223372036854775808 ≤ m ∧ m ≤ 9223372036854775807 ∧ wr.rowIs b 81 N (plc o L' f) ∧ Touch (fun k => k = b) w wr)
  case atStart => exact ⟨0, L, n, by simp, rfl, rfl, HL.out, by simp, hn0, hn1, hrow, Touch.refl _ _⟩
  case round =>
    obtain ⟨j, L', m, hj, rfl, rfl, hL', hk, hm0, hm1, hrow', ht⟩ := hrel
    have Hk := hd hk
    have HL' := hd hL'
    clear hk hL'
    have hc' : wr.cell? ⟨b, o + 16, none⟩ = some (.slice a R.length cap) := by
      rw [hrow'.cell (by omega)]; unfold plc; rw [if_neg (by omega), Hv.out]
    have hf' : wr.frozen? ⟨b, o + 16, none⟩ = false := hrow'.frozen _
    have hb' : b < wr.heap.size := hrow'.lt
    by_cases hlt : j < R.length
    · have hne : R ≠ [] := by intro h; subst h; simp at hlt
      have hga := Ha.out hne
      subst hga
      have hg := hglt hne
      have hg' : g < wr.heap.size := Nat.lt_of_lt_of_le hg ht.size
      obtain ⟨xs, t, hr⟩ : ∃ xs t, R[j]? = some (xs, t) := ⟨(R[j]).1, (R[j]).2, by simp [hlt]⟩
      have hrr : wr.rangeAt g (j * 17) (runC xs t) := ht.range (Hrun.out j _ hr) hg hgb
      obtain ⟨hx, ht1, ht2⟩ : xs.length = 16 ∧ 1 ≤ t ∧ t ≤ 2305843009213693952 := HR.out _ (List.mem_of_getElem? hr)
      have hdrop : R.drop j = (xs, t) :: R.drop (j + 1) := by
        rw [List.drop_eq_getElem_cons hlt]
        congr 1
        simpa [hlt] using hr
      have Hd := hd hdrop
      have Hr := hd hrr
      have Hx := hd hx
      have e5 := hd (runC_len hx t)
      clear hr hdrop hrr hx
      by_cases hm : m ≤ 0
      · go_wp2_with (first
          | (refine wpList_load_mid (by rfl) 122 _ (by rfl) g (j * 17) (by rfl) (runC xs t) _ Hr.out Try.underlying122 rfl (by rw [size70, e5.out]) ?_)
          | (refine wpList_store_row (by rfl) 122 _ _ (by rfl) wr.heap.size (runC xs t).toArray (by rfl) (by rfl) 122 _ (by exact heap_alloc_new _ _) (by simp [size70, e5.out]) (by simp [e5.out]) (all_oneCell_toArray (runC_one xs t)) ?_; rw [World.setRow_alloc_new]))
        go_end0
        refine ⟨rfl, ((ht.setCell (a := ⟨b, o + 16, none⟩) (fun _ => rfl) _).alloc _), ?_⟩
        have := (hrow'.set (o + 16) (.slice none 0 0)).alloc (.cells (runC xs t).toArray 122)
        refine World.rowIs.congr this (fun i _ => ?_)
        rw [Hk.out, Hd.out]
        simp only [keepGo]
        rw [if_pos hm]
      · have hcell : ((wr.alloc (.cells (runC xs t).toArray 122)).setCells b o (u8s xs)).cell? ⟨wr.heap.size, 16, none⟩ = some (.int .i64 t) := by
          rw [World.cell?_setCells_out _ _ _ _ _ (fun h _ => absurd h (by simp; omega))]
          have := runC_last (rangeAt_new wr (runC xs t) 122) Hx.out
          simpa using this
        have hrow1 := rowIs_setCells (u8s xs) o _ _ (hrow'.alloc (.cells (runC xs t).toArray 122))
        rw [plc_plc o L' xs f Hx.out] at hrow1
        have ht1 : Touch (fun k => k = b) w ((wr.alloc (.cells (runC xs t).toArray 122)).setCells b o (u8s xs)) := (ht.alloc _).setCells (fun _ => rfl) _ _
        have Hth := hd (rowIs_there (hrow'.alloc (.cells (runC xs t).toArray 122)) (show o + 16 ≤ N by omega))
        have Hrow1 := hd hrow1
        clear hrow1
        go_wp2_with (first
          | (refine wpList_load_mid (by rfl) 122 _ (by rfl) g (j * 17) (by rfl) (runC xs t) _ Hr.out Try.underlying122 rfl (by rw [size70, e5.out]) ?_)
          | (refine wpList_load_mid (by rfl) 78 _ (by rfl) wr.heap.size 0 (by rfl) (u8s xs) _ (runC_range (rangeAt_new wr (runC xs t) 122)) Try.underlying78 rfl (by simp [size56, Hx.out]) ?_)
          | (refine wpList_store_row (by rfl) 122 _ _ (by rfl) wr.heap.size (runC xs t).toArray (by rfl) (by rfl) 122 _ (by exact heap_alloc_new _ _) (by simp [size70, e5.out]) (by simp [e5.out]) (all_oneCell_toArray (runC_one xs t)) ?_; rw [World.setRow_alloc_new])
          | (refine wpList_store_mid (by rfl) 78 _ _ (by rfl) b o (u8s xs).toArray (by rfl) (by rfl) (by simpa [Hx.out] using Hth.out) (by simp [size56, Hx.out]) (all_oneCell_toArray (u8s_one xs)) ?_; rw [List.toList_toArray]))
        go_roundg (gk - 1)
        case measure => omega
        case rel =>
          refine ⟨j + 1, xs, m - t, by omega, by go_num, rfl, Hx.out, ?_, by omega, by omega, Hrow1.out, ht1⟩
          rw [Hk.out, Hd.out]
          simp only [keepGo]
          rw [if_neg (by omega)]
    · go_wp2_with fail
      go_end0
      refine ⟨rfl, (ht.setCell (a := ⟨b, o + 16, none⟩) (fun _ => rfl) _), ?_⟩
      refine World.rowIs.congr (hrow'.set (o + 16) (.slice none 0 0)) (fun i _ => ?_)
      rw [Hk.out, List.drop_eq_nil_of_le (by omega)]
      rfl

end Go.Proofs.Ytmecbbbopbndmaa
