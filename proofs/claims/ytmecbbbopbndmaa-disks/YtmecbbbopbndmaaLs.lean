import Derived.Test.YtmecbbbopbndmaaRn
namespace Go.Proofs.Ytmecbbbopbndmaa
open Go.RowKit

theorem own_row {w : World} {base : Nat} {e : TypeId} {v : Value} {n : Nat} {xs : List Value} (h : w.ownsRow base e 1 v n xs) (hn : 0 < n) :
    ∃ g cap f, v = .slice (some ⟨g, 0, none⟩) n cap ∧ base ≤ g ∧ n ≤ cap ∧ w.rowIs g e cap f ∧ ∀ i, i < n → xs[i]? = some (f i) := by
  rcases h.2 with ⟨_, h0⟩ | ⟨g, cap, cur, hv, hb, hg, hnc, _, hcs, htake⟩
  · omega
  · refine ⟨g, cap, fun i => cur[i]?.getD undef, hv, hb, hnc, ⟨cur, hg, by omega, fun i hi => ?_⟩, fun i hi => ?_⟩
    · have hlt : i < cur.size := by omega
      simp [hlt]
    · rw [← htake, List.getElem?_take_of_lt (by omega)]
      simp [show i < cur.size by omega]

theorem rnew_yes (n : Nat) (w : World) (h0 : 1 ≤ n) (h1 : n ≤ 200) :
    Calls Try.prog 37 #[.int .i64 (n : Int)] w fun e w' => e = .returned (.tuple #[.pointer (some ⟨w.heap.size, 0, none⟩), .int .i64 0]) ∧ Below w.heap.size w w' ∧ ∃ xl xs cl cs, w.heap.size < xl ∧ w.heap.size < xs ∧
      RD w' w.heap.size xl xs n cl cs (-1) false 0 (fun _ => zeroB) (fun _ => []) (fun _ => .slice none 0 0) := by
  refine (rnew_walk n w h0 h1).mono ?_
  rintro e w' ⟨he, lv, sv, h⟩
  obtain ⟨xl, cl, fl, hlv, hbl, hcl, hrl, hfl⟩ := own_row h.ol (by omega)
  obtain ⟨xs, cs, fs, hsv, hbs, hcs, hrs, hfs⟩ := own_row h.os (by omega)
  refine ⟨he, h.bl, xl, xs, cl, cs, by omega, by omega, ?_⟩
  have hdk := h.disk
  rw [hlv, hsv] at hdk
  exact
    { disk := hdk
      last := ⟨fl, hrl, fun i hi => by have := hfl i hi; rw [List.getElem?_replicate, if_pos hi] at this; simpa using this.symm⟩
      since := ⟨fs, hrs, fun i hi => by have := hfs i hi; rw [List.getElem?_replicate, if_pos hi] at this; simpa using this.symm⟩
      ncl := hcl
      ncs := hcs
      own := fun i _ => World.ownsRow_nil _ 0 9 1
      tots := fun _ _ => by simp
      ne1 := by omega
      ne2 := by omega
      ne3 := fun e => h.ap xl (by rw [hlv]; rfl) (by rw [hsv, e]; rfl)
      ap1 := fun _ _ => by simp [Value.ownBlock]
      ap2 := fun _ _ _ _ _ g hg => by simp [Value.ownBlock] at hg
      left0 := by decide
      left1 := by decide }

/-! the law's own helpers -/
theorem info3 : (Try.prog.info? 3).map (fun i => (i.zero, i.size, i.bytes)) = some (some (.int .i64 0), 1, 8) := by kernel_rfl

/-- a list of numbers in memory. -/
structure Ints (w : World) (a : Option Addr) (kb ko : Nat) (K : List Int) : Prop where
  at_ : K ≠ [] → a = some ⟨kb, ko, none⟩
  cell : ∀ q x, K[q]? = some x → w.cell? ⟨kb, ko + q, none⟩ = some (.int .i64 x)

set_option maxRecDepth 100000 in
set_option maxHeartbeats 1000000 in
theorem copied_any (K : List Int) (kb ko c : Nat) (a : Option Addr) (w : World) (hI : Ints w a kb ko K) (hkb : K ≠ [] → kb < w.heap.size) (hlen : K.length * 8 ≤ 281474976710656) :
    Calls Try.prog 20 #[.slice a K.length c] w fun e w' => e = .returned (.slice (some ⟨w.heap.size, 0, none⟩) K.length K.length) ∧ Below w.heap.size w w' ∧ w.heap.size < w'.heap.size ∧
      ∀ q x, K[q]? = some x → w'.cell? ⟨w.heap.size, q, none⟩ = some (.int .i64 x) := by
  have hmk := run_make_row' (P := Try.prog) 27 3 (.int .i64 0) 8 Try.underlying27 info3 rfl .i64 .i64 K.length (by omega) (by omega)
  have hlb : (K.length : Int) ≤ 35184372088832 := by omega
  have HI := hd hI
  have Hkb := hd hkb
  clear hI hkb
  go_enter Try.func20, Try.ntmps20
  go_wp2_with fail
  clear hmk
  go_loopg [4] K.length (fun k s4 wr => ∃ j : Nat, j + k = K.length ∧ s4 = .int .i64 j ∧ Below w.heap.size w wr ∧ w.heap.size < wr.heap.size ∧ ∃ f, wr.rowIs w.heap.size 3 K.length f ∧ ∀ q x, q < j → K[q]? = some x → f q = .int .i64 x)
  case atStart => exact ⟨0, by simp, rfl, (Below.refl _ _).alloc (Nat.le_refl _) _, by simp, _, World.rowIs_made w _ _ _, fun q x h _ => by omega⟩
  case round =>
    obtain ⟨j, hj, rfl, hb, hsz, f, hrow, hf⟩ := hrel
    have Hf := hd hf
    have Hrow := hd hrow
    clear hf hrow
    by_cases hlt : j < K.length
    · have hlt' : (j : Int) < K.length := by omega
      have hne : K ≠ [] := by intro e; simp [e] at hlt
      have hga := HI.out.at_ hne
      subst hga
      obtain ⟨x, hx⟩ : ∃ x, K[j]? = some x := ⟨K[j], by simp [hlt]⟩
      have hcell : wr.cell? ⟨kb, ko + j, none⟩ = some (.int .i64 x) := by
        rw [hb.cell (p := ⟨kb, ko + j, none⟩) (Hkb.out hne)]; exact HI.out.cell j x hx
      have hcw := Hrow.out.cell hlt
      have hfw := Hrow.out.frozen j
      have Hx := hd hx
      clear hx
      go_wp2_with fail
      go_roundg (gk - 1)
      case measure => omega
      case rel =>
        refine ⟨j + 1, by omega, by go_num, hb.setCell (Nat.le_refl _) _, by simpa using hsz, _, Hrow.out.set j _, fun q y hq hy => ?_⟩
        by_cases e : q = j
        · subst e
          rw [if_pos rfl]
          have := Hx.out
          rw [hy] at this
          simpa using this.symm
        · rw [if_neg e]
          exact Hf.out q y (by omega) hy
    · go_wp2_with fail
      go_ret
      obtain rfl : j = K.length := by omega
      refine ⟨rfl, hb, hsz, fun q x hq => ?_⟩
      have hql := (List.getElem?_eq_some_iff.1 hq).1
      rw [Hrow.out.cell hql, Hf.out q x hql hq]

set_option maxRecDepth 100000 in
set_option maxHeartbeats 1000000 in
theorem same_any (K : List Int) (kb ko c kb' ko' c' : Nat) (a a' : Option Addr) (w : World) (hI : Ints w a kb ko K) (hI' : Ints w a' kb' ko' K) (hlen : (K.length : Int) ≤ 35184372088832) :
    Calls Try.prog 23 #[.slice a K.length c, .slice a' K.length c'] w fun e w' => e = .returned (.bool true) ∧ ∃ q, w' = w.drewN q := by
  have HI := hd hI
  have HI' := hd hI'
  clear hI hI'
  go_enter Try.func23, Try.ntmps23
  go_wp2_with fail
  go_loopg [5] K.length (fun k s5 wr => ∃ j : Nat, j + k = K.length ∧ s5 = .int .i64 j ∧ ∃ q, wr = w.drewN q)
  case atStart => exact ⟨0, by simp, rfl, 0, rfl⟩
  case round =>
    obtain ⟨j, hj, rfl, q, rfl⟩ := hrel
    by_cases hlt : j < K.length
    · have hlt' : (j : Int) < K.length := by omega
      have hj0 : (0 : Int) ≤ j := by omega
      have hne : K ≠ [] := by intro e; simp [e] at hlt
      have hga := HI.out.at_ hne
      subst hga
      have hga' := HI'.out.at_ hne
      subst hga'
      obtain ⟨x, hx⟩ : ∃ x, K[j]? = some x := ⟨K[j], by simp [hlt]⟩
      have hcell := HI.out.cell j x hx
      have hcell' := HI'.out.cell j x hx
      clear hx
      go_wp2_with fail
      go_quiet (fail)
      go_wp2_with fail
      go_roundg (gk - 1)
      case measure => omega
      case rel => exact ⟨j + 1, by omega, by go_num, q + nq, by simp⟩
    · go_wp2_with fail
      go_ret
      exact ⟨rfl, q, rfl⟩


set_option maxHeartbeats 400000 in
theorem disk_no (m : Int) (w : World) (h : m < 1 ∨ 200 < m) :
    Calls Try.prog 10 #[.int .i64 m] w fun e w' => e = .returned (.tuple #[.pointer none, .pointer none, .bool true]) ∧ w' = w := by
  have H := hd h
  clear h
  go_enter Try.func10, Try.ntmps10
  go_wp2_with (first
    | (go_at_call 35; refine (newDisk_no m _ H.out).mono ?_; rintro e w' ⟨rfl, rfl⟩)
    | (go_at_call 37; refine (rnew_no m _ H.out).mono ?_; rintro e w' ⟨rfl, rfl⟩)
    | (go_at_call 13; refine (num_any _ _).mono ?_; rintro e w' ⟨rfl, rfl⟩))
  go_ret3
  exact ⟨rfl, rfl⟩

def MadeR (w' : World) (xd n : Nat) : Prop := ∃ xl xs cl cs, xd < xl ∧ xd < xs ∧ RD w' xd xl xs n cl cs (-1) false 0 (fun _ => zeroB) (fun _ => []) (fun _ => .slice none 0 0)

set_option maxRecDepth 100000 in
set_option maxHeartbeats 1000000 in
theorem disk_yes (n : Nat) (w : World) (h0 : 1 ≤ n) (h1 : n ≤ 200) :
    Calls Try.prog 10 #[.int .i64 (n : Int)] w fun e w' => e = .returned (.tuple #[.pointer (some ⟨w.heap.size + 1, 0, none⟩), .pointer (some ⟨w.heap.size + 2, 0, none⟩), .bool true]) ∧ Below w.heap.size w w' ∧
      PD w' (w.heap.size + 1) w.heap.size n (-1) false 0 (fun _ => zeroB) (fun _ => []) (fun _ => .slice none 0 0) ∧ MadeR w' (w.heap.size + 2) n := by
  have H1 := hd (newDisk_yes n w h0 h1)
  have H2 := hd (fun w => rnew_yes n w h0 h1)
  go_enter Try.func10, Try.ntmps10
  go_wp2_with (first
    | (go_at_call 35; refine H1.out.mono ?_; rintro e w1 ⟨rfl, t1, hz1, hp1⟩; have Hp1 := hd (And.intro t1 (And.intro hz1 hp1)); clear t1 hz1 hp1)
    | (go_at_call 37; refine (H2.out _).mono ?_; rintro e w2 ⟨rfl, b2, xl, xs, cl, cs, hx1, hx2, hr2⟩; rw [Hp1.out.2.1] at hr2 hx1 hx2 ⊢; have Hp2 := hd (And.intro b2 (And.intro hx1 (And.intro hx2 hr2))); clear b2 hx1 hx2 hr2)
    | (go_at_call 13; refine (num_any _ _).mono ?_; rintro e wn ⟨rfl, hh⟩; replace hh := hh.symm; subst hh))
  obtain ⟨t1, hz1, hp1⟩ := Hp1.out
  obtain ⟨b2, hx1, hx2, hr2⟩ := Hp2.out
  have hp2 := hp1.still (Touch.of_below b2 _)
  have hc1 := hp2.c0
  have hc2 := hr2.c0
  have hbelow : Below w.heap.size w w2 := (Touch.below (B := w.heap.size) (t1.mono (fun _ _ h => h.elim)) (Nat.le_refl _)).trans (b2.mono (by omega))
  have Hfin := hd (And.intro hbelow (And.intro hp2 (And.intro hx1 (And.intro hx2 hr2))))
  clear t1 hz1 hp1 b2 hx1 hx2 hr2 hp2 hbelow Hp1 Hp2 H1 H2
  go_quiet ((go_at_call 38; exact Calls.quiet_of_same (sectors_any _ _ _ _ _ (by exact hc1))))
  go_wp2_with fail
  go_ret3
  obtain ⟨hb, hp, hx1, hx2, hr⟩ := Hfin.out
  exact ⟨rfl, ⟨hb.os, hb.tape, hb.output, hb.size, hb.block⟩, hp.still ((Touch.refl _ w2).drewN nq), xl, xs, cl, cs, hx1, hx2, hr.still ((Touch.refl _ w2).drewN nq)⟩
end Go.Proofs.Ytmecbbbopbndmaa
