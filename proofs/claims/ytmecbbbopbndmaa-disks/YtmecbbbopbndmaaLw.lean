import Derived.Test.YtmecbbbopbndmaaTw
import Derived.Deep.Cut
import Derived.Deep.DeepCutAuto
namespace Go.Proofs.Ytmecbbbopbndmaa
open Go.RowKit

/-- one step of a script, as it lies in memory. -/
structure OpM where
  kind : Int
  a : Int
  b : Int
  s : ByteArray
  t : ByteArray
  va : Option Addr
  vc : Nat
  kb : Nat
  ko : Nat
  K : List Int

def opC (o : OpM) : List Value := [.int .i64 o.kind, .int .i64 o.a, .int .i64 o.b, .string o.s, .string o.t, .slice o.va o.K.length o.vc]

structure Script (W : World) (a : Option Addr) (sb so : Nat) (ops : List OpM) : Prop where
  at_ : ops ≠ [] → a = some ⟨sb, so, none⟩ ∧ sb < W.heap.size
  cell : ∀ i o, ops[i]? = some o → W.rangeAt sb (so + i * 6) (opC o)
  ints : ∀ o ∈ ops, Ints W o.va o.kb o.ko o.K ∧ o.kb < W.heap.size
  num : ∀ o ∈ ops, (-9223372036854775808 ≤ o.a ∧ o.a ≤ 9223372036854775807) ∧ (∀ x ∈ o.K, -9223372036854775808 ≤ x ∧ x ≤ 9223372036854775807) ∧ (o.K.length : Int) ≤ 35184372088832
  len : (ops.length : Int) ≤ 1759218604441

theorem opC_one (o : OpM) : ∀ v ∈ opC o, v.oneCell' = true := by
  intro v hv
  simp only [opC, List.mem_cons, List.not_mem_nil, or_false] at hv
  rcases hv with rfl | rfl | rfl | rfl | rfl | rfl <;> rfl

theorem size29 : (Try.prog.info? 29).map (·.size) = some 6 := by kernel_rfl

theorem op_kept (o : OpM) (wr w2 : World) {Z : Nat → Prop} (t : Touch (fun i => ¬ (Z i ∨ i = wr.heap.size)) (wr.alloc (.cells (opC o).toArray 29)) w2) :
    w2.cell? ⟨wr.heap.size, 1, none⟩ = some (.int .i64 o.a) ∧ w2.cell? ⟨wr.heap.size, 3, none⟩ = some (.string o.s) ∧ w2.cell? ⟨wr.heap.size, 5, none⟩ = some (.slice o.va o.K.length o.vc) := by
  have h : ∀ j v, (opC o)[j]? = some v → w2.cell? ⟨wr.heap.size, j, none⟩ = some v := fun j v hv => by
    rw [t.cell (a := ⟨wr.heap.size, j, none⟩) (by simp) (fun h => h (.inr rfl))]
    have := rangeAt_new wr (opC o) 29 j v hv
    simpa using this
  exact ⟨h 1 _ rfl, h 3 _ rfl, h 5 _ rfl⟩

set_option maxRecDepth 100000 in
set_option maxHeartbeats 1000000 in
theorem disks_no (m : Int) (v : Value) (w : World) (h : m < 1 ∨ 200 < m) :
    Calls Try.prog 3 #[.int .i64 m, v] w fun e w' => e = .returned (.bool true) ∧ w' = w := by
  have H := hd h
  clear h
  go_enter Try.func3, Try.ntmps3
  go_wp2_with (go_at_call 10; refine (disk_no m _ H.out).mono ?_; rintro e w' ⟨rfl, rfl⟩)
  go_ret
  exact ⟨rfl, rfl⟩

set_option maxRecDepth 100000 in
set_option maxHeartbeats 2000000 in
theorem disks_yes (n : Nat) (W : World) (a : Option Addr) (sb so c : Nat) (ops : List OpM) (h0 : 1 ≤ n) (h1 : n ≤ 200) (hs : Script W a sb so ops) :
    Calls Try.prog 3 #[.int .i64 (n : Int), .slice a ops.length c] W fun e w' => e = .returned (.bool true) ∧ Below W.heap.size W w' := by
  have Hd := hd (disk_yes n W h0 h1)
  have Hs := hd hs
  have Hol := hd hs.len
  have hn' : (n : Int) ≤ 200 := by omega
  clear hs
  go_enter Try.func3, Try.ntmps3
  go_wp2_with (go_at_call 10; refine Hd.out.mono ?_; rintro e w1 ⟨rfl, hb1, hp1, hr1⟩; have Hm := hd (And.intro hb1 (And.intro hp1 hr1)); clear hb1 hp1 hr1)
  generalize hbd : W.heap.size + 1 = bd at *
  generalize hxd : W.heap.size + 2 = xd at *
  have Hbd := hd hbd
  have Hxd := hd hxd
  clear hbd hxd
  go_loopg [7, 8] ops.length (fun k s7 s8 wr => ∃ j : Nat, j + k = ops.length ∧ s8 = .int .i64 j ∧ Bo (fun i => i < W.heap.size) W wr bd xd n j)
  case atStart =>
    refine ⟨0, by simp, rfl, ?_⟩
    obtain ⟨hb, hp, xl, xs, cl, cs, hx1, hx2, hr⟩ := Hm.out
    have e1 := Hbd.out
    have e2 := Hxd.out
    have hpf : ∀ k, PF bd W.heap.size n (fun _ => Value.slice none 0 0) k → k = bd ∨ k = W.heap.size := fun k hk => by
      rcases hk with h | h | ⟨_, _, h⟩
      · exact .inl h
      · exact .inr h
      · simp [Value.ownBlock] at h
    have hrf : ∀ k, RF xd xl xs n (fun _ => Value.slice none 0 0) k → xd ≤ k := fun k hk => by
      rcases hk with h | h | h | ⟨_, _, h⟩
      · omega
      · omega
      · omega
      · simp [Value.ownBlock] at h
    exact ⟨_, xl, xs, cl, cs, -1, false, _, fun _ => [], _, _, ⟨hp, hr, fun k h1 h2 => by have h3 := hpf k h1; have h4 := hrf k h2; omega, fun k hk hz => by have h3 := hpf k hk; omega, fun k hk hz => by have h3 := hrf k hk; omega, fun k hk => hk,
      ⟨hb.os, hb.tape, hb.output, hb.size, fun k hk hz => hb.block k hk⟩⟩⟩
  case round =>
    obtain ⟨j, hj, rfl, hbo⟩ := hrel
    have Hbo := hd hbo
    clear hbo
    by_cases hlt : j < ops.length
    · have hne : ops ≠ [] := by intro e; simp [e] at hlt
      obtain ⟨hga, hsb⟩ := Hs.out.at_ hne
      subst hga
      obtain ⟨o, ho⟩ : ∃ o, ops[j]? = some o := ⟨ops[j], by simp [hlt]⟩
      have hmem := List.mem_of_getElem? ho
      have hrg : wr.rangeAt sb (so + j * 6) (opC o) := Hbo.out.bl.range (Hs.out.cell j o ho) hsb (fun h => h hsb)
      have hnum := Hs.out.num o hmem
      have hints := Hs.out.ints o hmem
      have hbo1 := Hbo.out.rebase (k := wr.heap.size) (Nat.le_refl _) (w1 := wr.alloc (.cells (opC o).toArray 29)) (by simp) ((Touch.refl _ wr).alloc _)
      have Hrg := hd hrg
      have Hnum := hd hnum
      have Hints := hd hints
      have Hbo1 := hd hbo1
      have hlt' : (j : Int) < ops.length := by omega
      have hbig : (j : Int) < 1152921504606846976 := by have := Hol.out; omega
      have hjb : (j : Int) ≤ 1759218604441 := by have := Hol.out; omega
      have q0 : (opC o)[0]? = some (.int .i64 o.kind) := rfl
      have q1 : (opC o)[1]? = some (.int .i64 o.a) := rfl
      have q3 : (opC o)[3]? = some (.string o.s) := rfl
      have q5 : (opC o)[5]? = some (.slice o.va o.K.length o.vc) := rfl
      have hocl : (opC o).length = 6 := rfl
      have Hocl := hd hocl
      have Hback := hd (fun (w2 : World) (T1 : Int) (h : Bo (fun i => (i < W.heap.size) ∨ i = wr.heap.size) (wr.alloc (.cells (opC o).toArray 29)) w2 bd xd n T1) (hT : T1 ≤ ((j + 1 : Nat) : Int)) => h.back Hbo.out ((Touch.refl _ wr).alloc _) hT)
      clear ho hmem hrg hnum hints hbo1 hocl
      by_cases k1 : o.kind = 1
      · have Hoc := hd (fun (w2 : World) (t : Touch (fun i => ¬ ((i < W.heap.size) ∨ i = wr.heap.size)) (wr.alloc (.cells (opC o).toArray 29)) w2) => op_kept o wr w2 t)
        have b1 : (o.kind == 1) = true := beq_iff_eq.2 k1
        clear k1
        obtain ⟨str, cc, M, _, hbl, hrd, hrd2⟩ := bo_read Hbo1.out (by omega) o.a
        have Hr := hd hrd
        have Hr2 := hd hrd2
        have Hbl := hd hbl
        clear hrd hrd2 hbl
        go_upto_region 7 with fail
        clear hbig
        go_wp2_with (first
          | (refine wpList_load_mid (by rfl) 29 _ (by rfl) sb (so + j * 6) (by rfl) (opC o) _ Hrg.out Try.underlying29 rfl (by rw [size29, Hocl.out]) ?_)
          | (refine wpList_store_row (by rfl) 29 _ _ (by rfl) wr.heap.size (opC o).toArray (by rfl) (by rfl) 29 _ (by exact heap_alloc_new _ _) (by simp [size29, Hocl.out]) (by simp [Hocl.out]) (all_oneCell_toArray (opC_one o)) ?_; rw [World.setRow_alloc_new])
          | (go_at_call 11; refine Hr.out.mono ?_; rintro e w2 ⟨rfl, hm⟩; have hoc := Hoc.out w2 (Hbl.out _ hm); obtain ⟨c1, c3, c5⟩ := hoc; have Hm2 := hd hm; clear hm)
          | (go_at_call 12; refine (Hr2.out _ Hm2.out).mono ?_; rintro e w3 ⟨rfl, hb3⟩; have Hb3 := hd hb3; clear hb3)
          | (go_at_call 13; refine (num_any _ _).mono ?_; rintro e wn ⟨rfl, hh⟩; replace hh := hh.symm; subst hh))
        go_roundg (gk - 1)
        case measure => omega
        case rel => exact ⟨j + 1, by omega, by go_num, Hback.out _ _ Hb3.out (by omega)⟩
      by_cases k2 : o.kind = 2
      · have Hoc := hd (fun (w2 : World) (t : Touch (fun i => ¬ ((i < W.heap.size) ∨ i = wr.heap.size)) (wr.alloc (.cells (opC o).toArray 29)) w2) => op_kept o wr w2 t)
        have b1 : (o.kind == 1) = false := beq_eq_false_iff_ne.2 k1
        have b2 : (o.kind == 2) = true := beq_iff_eq.2 k2
        clear k1 k2
        obtain ⟨cc, M, hcm, hbl, hrd, hrd2⟩ := bo_write Hbo1.out (by omega) o.a o.s
        have Hr := hd hrd
        have Hr2 := hd hrd2
        have Hbl := hd hbl
        have Hcm := hd hcm
        clear hrd hrd2 hbl hcm
        go_upto_region 7 with fail
        clear hbig
        go_wp2_with (first
          | (refine wpList_load_mid (by rfl) 29 _ (by rfl) sb (so + j * 6) (by rfl) (opC o) _ Hrg.out Try.underlying29 rfl (by rw [size29, Hocl.out]) ?_)
          | (refine wpList_store_row (by rfl) 29 _ _ (by rfl) wr.heap.size (opC o).toArray (by rfl) (by rfl) 29 _ (by exact heap_alloc_new _ _) (by simp [size29, Hocl.out]) (by simp [Hocl.out]) (all_oneCell_toArray (opC_one o)) ?_; rw [World.setRow_alloc_new])
          | (go_at_call 14; refine Hr.out.mono ?_; rintro e w2 ⟨rfl, hm⟩; have hoc := Hoc.out w2 (Hbl.out _ hm); obtain ⟨c1, c3, c5⟩ := hoc; have Hm2 := hd hm; clear hm))
        go_region_held3 (fun wx => wx.cell? ⟨wr.heap.size, 1, none⟩ = some (.int .i64 o.a) ∧ wx.cell? ⟨wr.heap.size, 3, none⟩ = some (.string o.s))
          (first
            | (exact ⟨c1, c3⟩)
            | (exact ⟨(Hoc.out w3 hb3.bl).1, (Hoc.out w3 hb3.bl).2.1⟩))
          (first
            | (go_at_call 13; refine (num_any _ _).mono ?_; rintro e wn ⟨rfl, hh⟩; replace hh := hh.symm; subst hh)
            | (go_at_call 15; refine (Hr2.out _ (Hcm.out _ _ Hm2.out ((Touch.refl _ _).drew))).mono ?_; rintro e w3 ⟨rfl, hb3⟩))
        have Hb3 := hd hb3
        clear hb3
        go_wp2_with fail
        go_roundg (gk - 1)
        case measure => omega
        case rel => exact ⟨j + 1, by omega, by go_num, Hback.out _ _ Hb3.out (by omega)⟩
      by_cases k3 : o.kind = 3
      · have b1 : (o.kind == 1) = false := beq_eq_false_iff_ne.2 k1
        have b2 : (o.kind == 2) = false := beq_eq_false_iff_ne.2 k2
        have b3 : (o.kind == 3) = true := beq_iff_eq.2 k3
        clear k1 k2 k3
        obtain ⟨cc, M, hcm, hbl, hrd, hrd2⟩ := bo_sync Hbo1.out (by omega) h1
        have Hr := hd hrd
        have Hr2 := hd hrd2
        clear hrd hrd2 hbl hcm
        go_upto_region 7 with fail
        clear hbig
        go_wp2_with (first
          | (refine wpList_load_mid (by rfl) 29 _ (by rfl) sb (so + j * 6) (by rfl) (opC o) _ Hrg.out Try.underlying29 rfl (by rw [size29, Hocl.out]) ?_)
          | (refine wpList_store_row (by rfl) 29 _ _ (by rfl) wr.heap.size (opC o).toArray (by rfl) (by rfl) 29 _ (by exact heap_alloc_new _ _) (by simp [size29, Hocl.out]) (by simp [Hocl.out]) (all_oneCell_toArray (opC_one o)) ?_; rw [World.setRow_alloc_new])
          | (go_at_call 16; refine Hr.out.mono ?_; rintro e w2 ⟨rfl, hm⟩; have Hm2 := hd hm; clear hm)
          | (go_at_call 17; refine (Hr2.out _ Hm2.out).mono ?_; rintro e w3 ⟨rfl, hb3⟩; have Hb3 := hd hb3; clear hb3)
          | (go_at_call 13; refine (num_any _ _).mono ?_; rintro e wn ⟨rfl, hh⟩; replace hh := hh.symm; subst hh))
        go_roundg (gk - 1)
        case measure => omega
        case rel => exact ⟨j + 1, by omega, by go_num, Hback.out _ _ Hb3.out (by omega)⟩
      by_cases k4 : o.kind = 4
      · have Hoc := hd (fun (w2 : World) (t : Touch (fun i => ¬ ((i < W.heap.size) ∨ i = wr.heap.size)) (wr.alloc (.cells (opC o).toArray 29)) w2) => op_kept o wr w2 t)
        have b1 : (o.kind == 1) = false := beq_eq_false_iff_ne.2 k1
        have b2 : (o.kind == 2) = false := beq_eq_false_iff_ne.2 k2
        have b3 : (o.kind == 3) = false := beq_eq_false_iff_ne.2 k3
        have b4 : (o.kind == 4) = true := beq_iff_eq.2 k4
        clear k1 k2 k3 k4
        have hna := Hnum.out.1
        obtain ⟨M, hcm, hbl, hrd, hrd2⟩ := bo_fuse Hbo1.out o.a hna.1 hna.2
        have Hr := hd hrd
        have Hr2 := hd hrd2
        have Hbl := hd hbl
        clear hrd hrd2 hbl hcm hna
        go_upto_region 7 with fail
        clear hbig
        go_wp2_with (first
          | (refine wpList_load_mid (by rfl) 29 _ (by rfl) sb (so + j * 6) (by rfl) (opC o) _ Hrg.out Try.underlying29 rfl (by rw [size29, Hocl.out]) ?_)
          | (refine wpList_store_row (by rfl) 29 _ _ (by rfl) wr.heap.size (opC o).toArray (by rfl) (by rfl) 29 _ (by exact heap_alloc_new _ _) (by simp [size29, Hocl.out]) (by simp [Hocl.out]) (all_oneCell_toArray (opC_one o)) ?_; rw [World.setRow_alloc_new])
          | (go_at_call 18; refine Hr.out.mono ?_; rintro e w2 ⟨rfl, hm⟩; have hoc := Hoc.out w2 (Hbl.out _ hm); obtain ⟨c1, c3, c5⟩ := hoc; have Hm2 := hd hm; clear hm)
          | (go_at_call 19; refine (Hr2.out _ Hm2.out).mono ?_; rintro e w3 ⟨rfl, hb3⟩; have Hb3 := hd hb3; clear hb3))
        go_roundg (gk - 1)
        case measure => omega
        case rel => exact ⟨j + 1, by omega, by go_num, Hback.out _ _ Hb3.out (by omega)⟩
      by_cases k5 : o.kind = 5
      · have Hoc := hd (fun (w2 : World) (t : Touch (fun i => ¬ ((i < W.heap.size) ∨ i = wr.heap.size)) (wr.alloc (.cells (opC o).toArray 29)) w2) => op_kept o wr w2 t)
        have b1 : (o.kind == 1) = false := beq_eq_false_iff_ne.2 k1
        have b2 : (o.kind == 2) = false := beq_eq_false_iff_ne.2 k2
        have b3 : (o.kind == 3) = false := beq_eq_false_iff_ne.2 k3
        have b4 : (o.kind == 4) = false := beq_eq_false_iff_ne.2 k4
        have b5 : (o.kind == 5) = true := beq_iff_eq.2 k5
        clear k1 k2 k3 k4 k5
        obtain ⟨hna, hKb, hKl⟩ := Hnum.out
        obtain ⟨hI, hkb⟩ := Hints.out
        have tW : Touch (fun k => ¬ k < W.heap.size) W (wr.alloc (.cells (opC o).toArray 29)) := Hbo.out.bl.alloc _
        have hI1 : Ints (wr.alloc (.cells (opC o).toArray 29)) o.va o.kb o.ko o.K := ⟨hI.at_, fun q x hq => by rw [tW.cell (a := ⟨o.kb, o.ko + q, none⟩) hkb (fun h => h hkb)]; exact hI.cell q x hq⟩
        have hsz1 : (wr.alloc (.cells (opC o).toArray 29)).heap.size = wr.heap.size + 1 := by simp
        have hcp := copied_any o.K o.kb o.ko o.vc o.va _ hI1 (fun _ => Nat.lt_of_lt_of_le hkb tW.size) (by omega)
        have hcr := fun (w2 : World) hb hs hc => bo_crash (w2 := w2) Hbo1.out (by omega) h1 o.K hb hs hc hKb hKl o.kb o.ko o.vc o.va hI1 (.inl hkb)
        rw [hsz1] at hcp
        simp only [hsz1] at hcr
        have Hcp := hd hcp
        have Hcr := hd hcr
        have HI1 := hd hI1
        have HKl := hd hKl
        have Hkb := hd hkb
        have Hsz1 := hd hsz1
        have HtW := hd tW
        clear hna hKb hKl hI hkb tW hI1 hsz1 hcp hcr
        go_upto_region 7 with fail
        clear hbig
        go_wp2_with (first
          | (refine wpList_load_mid (by rfl) 29 _ (by rfl) sb (so + j * 6) (by rfl) (opC o) _ Hrg.out Try.underlying29 rfl (by rw [size29, Hocl.out]) ?_)
          | (refine wpList_store_row (by rfl) 29 _ _ (by rfl) wr.heap.size (opC o).toArray (by rfl) (by rfl) 29 _ (by exact heap_alloc_new _ _) (by simp [size29, Hocl.out]) (by simp [Hocl.out]) (all_oneCell_toArray (opC_one o)) ?_; rw [World.setRow_alloc_new])
          | (go_at_call 20; refine Hcp.out.mono ?_; rintro e w2 ⟨rfl, hb2, hs2, hc2⟩; obtain ⟨M, hcm, hbl, hrd, hrd2⟩ := Hcr.out w2 hb2 hs2 hc2; have Hr := hd hrd; have Hr2 := hd hrd2; have Hbl := hd hbl; clear hrd hrd2 hbl hcm hb2 hs2 hc2)
          | (go_at_call 21; refine Hr.out.mono ?_; rintro e w3 ⟨rfl, hm⟩; have hoc := Hoc.out w3 (Hbl.out _ hm); obtain ⟨c1, c3, c5⟩ := hoc; have Hm2 := hd hm; clear hm)
          | (go_at_call 22; refine (Hr2.out _ Hm2.out).mono ?_; rintro e w4 ⟨rfl, hb4, hc4⟩; have hoc := Hoc.out w4 hb4.bl; obtain ⟨c1, c3, c5⟩ := hoc; have Hb4 := hd hb4; have Hc4 := hd hc4; clear hb4 hc4)
          | (go_at_call 23; refine (same_any o.K (wr.heap.size + 1) 0 o.K.length o.kb o.ko o.vc _ _ w4 ⟨fun _ => rfl, fun q x hq => by rw [Nat.zero_add]; exact Hc4.out q x hq⟩ ⟨HI1.out.at_, fun q x hq => by rw [Hb4.out.bl.cell (a := ⟨o.kb, o.ko + q, none⟩) (Nat.lt_of_lt_of_le Hkb.out HtW.out.size) (fun h => h (.inl Hkb.out))]; exact HI1.out.cell q x hq⟩ HKl.out).mono ?_; rintro e w5 ⟨rfl, q5, hq5⟩; subst hq5))
        go_roundg (gk - 1)
        case measure => omega
        case rel => exact ⟨j + 1, by omega, by go_num, Hback.out _ _ (Hb4.out.still ((Touch.refl _ w4).drewN q5)) (by omega)⟩
      have b1 : (o.kind == 1) = false := beq_eq_false_iff_ne.2 k1
      have b2 : (o.kind == 2) = false := beq_eq_false_iff_ne.2 k2
      have b3 : (o.kind == 3) = false := beq_eq_false_iff_ne.2 k3
      have b4 : (o.kind == 4) = false := beq_eq_false_iff_ne.2 k4
      have b5 : (o.kind == 5) = false := beq_eq_false_iff_ne.2 k5
      clear k1 k2 k3 k4 k5
      go_upto_region 7 with fail
      clear hbig
      go_wp2_with (first
        | (refine wpList_load_mid (by rfl) 29 _ (by rfl) sb (so + j * 6) (by rfl) (opC o) _ Hrg.out Try.underlying29 rfl (by rw [size29, Hocl.out]) ?_)
        | (refine wpList_store_row (by rfl) 29 _ _ (by rfl) wr.heap.size (opC o).toArray (by rfl) (by rfl) 29 _ (by exact heap_alloc_new _ _) (by simp [size29, Hocl.out]) (by simp [Hocl.out]) (all_oneCell_toArray (opC_one o)) ?_; rw [World.setRow_alloc_new]))
      go_roundg (gk - 1)
      case measure => omega
      case rel => exact ⟨j + 1, by omega, by go_num, Hback.out _ _ Hbo1.out (by omega)⟩
    · go_wp2_with fail
      go_loopg [17] n (fun k s17 wr => ∃ j : Nat, j + k = n ∧ s17 = .int .i64 j ∧ Bo (fun i => i < W.heap.size) W wr bd xd n ops.length)
      case atStart =>
        refine ⟨0, by simp, rfl, Hbo.out.more (by omega)⟩
      case round =>
        obtain ⟨i, hi, rfl, hb⟩ := hrel
        obtain ⟨a0, c0, hc0⟩ := hb.c0
        have Hb := hd hb
        clear hb
        by_cases hin : i < n
        · have hin' : (i : Int) < n := by omega
          obtain ⟨str, cc, M, hM, _, hrd, hrd2⟩ := bo_read Hb.out (by have := Hol.out; omega) (i : Int)
          have Hr := hd hrd
          have Hr2 := hd hrd2
          clear hM hrd hrd2
          go_wp2_with (first
            | (go_at_call 11; refine Hr.out.mono ?_; rintro e w2 ⟨rfl, hm⟩; have Hm2 := hd hm; clear hm)
            | (go_at_call 12; refine (Hr2.out _ Hm2.out).mono ?_; rintro e w3 ⟨rfl, hb3⟩; have Hb3 := hd hb3; clear hb3)
            | (go_at_call 13; refine (num_any _ _).mono ?_; rintro e wn ⟨rfl, hh⟩; replace hh := hh.symm; subst hh))
          go_roundg (gk - 1)
          case measure => omega
          case rel => exact ⟨i + 1, by omega, by go_num, Hb3.out⟩
        · go_wp2_with fail
          go_ret
          have t := Hb.out.bl
          exact ⟨rfl, ⟨t.os, t.tape, t.output, t.size, fun k hk => t.block k hk (fun h => h hk)⟩⟩
end Go.Proofs.Ytmecbbbopbndmaa
