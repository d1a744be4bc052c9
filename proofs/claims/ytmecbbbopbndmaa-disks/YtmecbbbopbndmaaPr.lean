import Derived.Test.YtmecbbbopbndmaaRows
import Derived.Test.YtmecbbbopbndmaaLw
import Derived.ProofKit
import Derived.SizedLaws
import Derived.Deep.Slices
namespace Go.Proofs.Ytmecbbbopbndmaa
open Go.ChangeShapes Go.WideShapes Go.ChangeAt Go.RowKit Go.Deep

theorem own3 : ownKnob Try.prog.godebug = none := by kernel_rfl
theorem laidOut3 : laidOutB Try.prog = true := by kernel_rfl
theorem cells29 : Try.prog.cellsOf 29 = 6 := by kernel_rfl
theorem cells3 : Try.prog.cellsOf 3 = 1 := by kernel_rfl
theorem cells9 : Try.prog.cellsOf 9 = 1 := by kernel_rfl
theorem cells27 : Try.prog.cellsOf 27 = 1 := by kernel_rfl
theorem bytes29 : Try.prog.bytesOf 29 = 80 := by kernel_rfl
theorem bytes3 : Try.prog.bytesOf 3 = 8 := by kernel_rfl
theorem reach_is : reachBytes = 140737488351232 := rfl

theorem wf_bounds {n : Int} (h : (Lit.int .i64 n).wf = true) : -9223372036854775808 ≤ n ∧ n ≤ 9223372036854775807 := by
  simpa [Lit.wf, IntKind.min, IntKind.max, IntKind.signed, IntKind.bits] using h

theorem six_of {α : Type} : ∀ (l : List α), l.length = 6 → ∃ a b c d e f, l = [a, b, c, d, e, f]
  | [a, b, c, d, e, f], _ => ⟨a, b, c, d, e, f, rfl⟩

/-- one step of a script, read. -/
theorem op_open {H : Type} {enc : TypeId × Value → H} {W : World} {n : Nat} {cs : List Value} {d : DataW H} {pl : List MemPlace} (h : DataW.trod enc Try.prog W 0 (fun _ => true) true n 29 cs = some (d, pl)) (sb : Nat) (hsb : sb < W.heap.size) :
    ∃ o : OpM, cs = opC o ∧ Ints W o.va o.kb o.ko o.K ∧ o.kb < W.heap.size ∧ (-9223372036854775808 ≤ o.a ∧ o.a ≤ 9223372036854775807) ∧ (∀ x ∈ o.K, -9223372036854775808 ≤ x ∧ x ≤ 9223372036854775807) ∧
      ((d.weights Try.prog 29).all (· ≤ reachBytes) = true → o.K.length * 8 ≤ reachBytes) := by
  obtain ⟨xs, m, _, hx, hl, hlen, hf⟩ := DataW.trod_struct Try.underlying29 h
  rw [cells29] at hl
  obtain ⟨c0, c1, c2, c3, c4, c5, rfl⟩ := six_of cs hl
  obtain ⟨y0, y1, y2, y3, y4, y5, rfl⟩ := six_of xs hlen
  have f0 : DataW.trod enc Try.prog W 0 (fun _ => true) true m 3 (([c0, c1, c2, c3, c4, c5].drop 0).take (Try.prog.cellsOf 3)) = some y0 := hf 0 _ rfl
  rw [cells3] at f0
  have f1 : DataW.trod enc Try.prog W 0 (fun _ => true) true m 3 (([c0, c1, c2, c3, c4, c5].drop 1).take (Try.prog.cellsOf 3)) = some y1 := hf 1 _ rfl
  rw [cells3] at f1
  have f2 : DataW.trod enc Try.prog W 0 (fun _ => true) true m 3 (([c0, c1, c2, c3, c4, c5].drop 2).take (Try.prog.cellsOf 3)) = some y2 := hf 2 _ rfl
  rw [cells3] at f2
  have f3 : DataW.trod enc Try.prog W 0 (fun _ => true) true m 9 (([c0, c1, c2, c3, c4, c5].drop 3).take (Try.prog.cellsOf 9)) = some y3 := hf 3 _ rfl
  rw [cells9] at f3
  have f4 : DataW.trod enc Try.prog W 0 (fun _ => true) true m 9 (([c0, c1, c2, c3, c4, c5].drop 4).take (Try.prog.cellsOf 9)) = some y4 := hf 4 _ rfl
  rw [cells9] at f4
  have f5 : DataW.trod enc Try.prog W 0 (fun _ => true) true m 27 (([c0, c1, c2, c3, c4, c5].drop 5).take (Try.prog.cellsOf 27)) = some y5 := hf 5 _ rfl
  rw [cells27] at f5
  obtain ⟨k, e0, _, _⟩ := DataW.trod_int Try.underlying3 f0
  obtain ⟨a, e1, _, wa⟩ := DataW.trod_int Try.underlying3 f1
  obtain ⟨b, e2, _, _⟩ := DataW.trod_int Try.underlying3 f2
  obtain ⟨s, e3, _, _⟩ := DataW.trod_string Try.underlying9 f3
  obtain ⟨t, e4, _, _⟩ := DataW.trod_string Try.underlying9 f4
  simp at e0 e1 e2 e3 e4
  subst e0 e1 e2 e3 e4
  have hd : d = .agg [y0.1, y1.1, y2.1, y3.1, y4.1, y5.1] := by simpa using congrArg Prod.fst hx
  rcases open_ints Try.underlying27 Try.underlying3 cells3 f5 with ⟨e5, _⟩ | ⟨av, len, cap, zs, e5, _, hlc, hcm, hzl, hy, hcell, hwf⟩
  · simp at e5
    subst e5
    exact ⟨⟨k, a, b, s, t, none, 0, sb, 0, []⟩, rfl, ⟨fun h => absurd rfl h, fun q x hq => by simp at hq⟩, hsb, wf_bounds wa, fun x hx => (by cases hx), fun _ => (by simp)⟩
  · simp at e5
    subst e5
    have hzl' : zs.length = cap := by simpa using hzl
    have hKl : (zs.take len).length = len := by simp; omega
    rcases Nat.eq_zero_or_pos len with h0 | hpos
    · subst h0
      exact ⟨⟨k, a, b, s, t, some av, cap, sb, 0, []⟩, rfl, ⟨fun h => absurd rfl h, fun q x hq => by simp at hq⟩, hsb, wf_bounds wa, fun x hx => (by cases hx), fun _ => (by simp)⟩
    · have hsp : av.spot = none := by
        have := World.cell?_spot (hcell 0 (by omega))
        simpa [Addr.add] using this
      obtain ⟨kb, ko, sp⟩ := av
      simp only at hsp
      subst hsp
      refine ⟨⟨k, a, b, s, t, some ⟨kb, ko, none⟩, cap, kb, ko, zs.take len⟩, by simp [opC, hKl], ⟨fun _ => rfl, fun q x hq => ?_⟩, ?_, wf_bounds wa, fun x hx => wf_bounds (hwf x (List.mem_of_mem_take hx)), fun hw => ?_⟩
      · have hql := (List.getElem?_eq_some_iff.1 hq).1
        rw [hKl] at hql
        have := hcell q (by omega)
        rw [Addr.add_mid] at this
        rw [List.getElem?_take_of_lt hql] at hq
        rw [this, List.getD_eq_getElem?_getD, hq]; rfl
      · exact World.block_lt_of_cell? W _ (hcell 0 (by omega))
      · have hmem : zs.length * 8 ∈ d.weights Try.prog 29 := by
          rw [hd]
          simp only [DataW.weights, Try.underlying29]
          refine DataW.weights_mem_each (j := 5) (t := 27) (d := y5.1) rfl rfl _ ?_
          have : y5.1 = .slice (lits .i64 (zs.take len)) (lits .i64 (zs.drop len)) := by rw [hy]
          rw [this]
          simp only [DataW.weights, Try.underlying27, List.mem_cons]
          left
          rw [bytes3]
          simp [lits]
          omega
        have := List.all_eq_true.1 hw _ hmem
        simp only [decide_eq_true_eq] at this
        show (zs.take len).length * 8 ≤ _
        rw [hKl]
        omega

theorem weightsAll_mem {H : Type} {P : Program} {e : TypeId} : ∀ {l : List (DataW H)} {d : DataW H}, d ∈ l → ∀ n ∈ d.weights P e, n ∈ DataW.weightsAll P e l
  | d' :: r, d, hd, n, hn => by
    simp only [DataW.weightsAll, List.mem_append]
    rcases List.mem_cons.1 hd with rfl | h
    · exact Or.inl hn
    · exact Or.inr (weightsAll_mem h n hn)

/-- a script, read. -/
theorem script_open {H : Type} {enc : TypeId × Value → H} {W : World} {fuel : Nat} {a0 : Option Addr} {len cap : Nat} {x : DataW H × List MemPlace}
    (h : DataW.trod enc Try.prog W 0 (fun _ => true) true fuel 22 [.slice a0 len cap] = some x) (hw : (x.1.weights Try.prog 22).all (· ≤ reachBytes) = true) :
    ∃ sb so ops, ops.length = len ∧ Script W a0 sb so ops := by
  rcases open_slice Try.underlying22 h with ⟨e, _⟩ | ⟨a, len', cap', m, nn, D, Pl, e, _, hl, hm, hmm, hx, hel⟩
  · simp only [List.cons.injEq, and_true, Value.slice.injEq] at e
    obtain ⟨_, rfl, _⟩ := e
    exact ⟨0, 0, [], rfl, ⟨fun h => absurd rfl h, fun i o h => by simp at h, fun o h => (by cases h), fun o h => (by cases h), by simp⟩⟩
  · simp only [List.cons.injEq, and_true, Value.slice.injEq] at e
    obtain ⟨rfl, rfl, rfl⟩ := e
    simp only [if_true] at hmm
    subst hmm
    have hd : x.1 = .slice ((List.range len).map D) ((List.range (m - len)).map fun j => D (len + j)) := by rw [hx]
    rw [hd] at hw
    simp only [DataW.weights, Try.underlying22, List.all_cons, List.all_append, Bool.and_eq_true, List.length_map, List.length_range, bytes29] at hw
    have hsz : (len + (m - len)) * 80 ≤ reachBytes := by simpa using hw.1
    rw [reach_is] at hsz
    rcases Nat.eq_zero_or_pos len with h0 | hpos
    · subst h0
      exact ⟨0, 0, [], rfl, ⟨fun h => absurd rfl h, fun i o h => by simp at h, fun o h => (by cases h), fun o h => (by cases h), by simp⟩⟩
    rw [cells29] at hel
    obtain ⟨sb, so, sp⟩ := a
    have hsp : sp = none ∧ sb < W.heap.size := by
      obtain ⟨cs0, hc0, _⟩ := hel 0 (by omega)
      obtain ⟨_, hl0, hg0⟩ := World.cells?_some hc0
      have h1 := hg0 0 (by omega)
      rw [List.getElem?_eq_getElem (by omega)] at h1
      exact ⟨by simpa [Addr.add] using World.cell?_spot h1, by simpa [Addr.add] using World.block_lt_of_cell? W _ h1⟩
    obtain ⟨rfl, hsb⟩ := hsp
    have hop : ∀ i, i < len → ∃ o : OpM, W.rangeAt sb (so + i * 6) (opC o) ∧ Ints W o.va o.kb o.ko o.K ∧ o.kb < W.heap.size ∧ (-9223372036854775808 ≤ o.a ∧ o.a ≤ 9223372036854775807) ∧ (∀ x ∈ o.K, -9223372036854775808 ≤ x ∧ x ≤ 9223372036854775807) ∧
        o.K.length * 8 ≤ reachBytes := by
      intro i hi
      obtain ⟨cs, hc, ht⟩ := hel i (by omega)
      obtain ⟨_, hcl, hcg⟩ := World.cells?_some hc
      obtain ⟨o, e, h1, h2, h3, h4, h5⟩ := op_open ht sb hsb
      refine ⟨o, fun j v hv => ?_, h1, h2, h3, h4, h5 ?_⟩
      · have hj : j < 6 := by have := (List.getElem?_eq_some_iff.1 hv).1; simpa [opC] using this
        have := hcg j hj
        rw [e, hv] at this
        rw [add_add, Addr.add_mid] at this
        rw [Nat.add_assoc]
        exact this
      · refine List.all_eq_true.2 fun y hy => ?_
        exact List.all_eq_true.1 hw.2.1 y (weightsAll_mem (List.mem_map.2 ⟨i, List.mem_range.2 hi, rfl⟩) y hy)
    haveI : Inhabited OpM := ⟨⟨0, 0, 0, ByteArray.empty, ByteArray.empty, none, 0, 0, 0, []⟩⟩
    obtain ⟨O, hO⟩ := choose_lt (α := OpM) hop
    have hget : ∀ i o, ((List.range len).map O)[i]? = some o → i < len ∧ o = O i := by
      intro i o hi
      have hlt := (List.getElem?_eq_some_iff.1 hi).1
      simp only [List.length_map, List.length_range] at hlt
      rw [List.getElem?_map, List.getElem?_range hlt] at hi
      exact ⟨hlt, by simpa using hi.symm⟩
    have hmem : ∀ o ∈ (List.range len).map O, ∃ i, i < len ∧ o = O i := by
      intro o ho
      obtain ⟨i, hi, rfl⟩ := List.mem_map.1 ho
      exact ⟨i, List.mem_range.1 hi, rfl⟩
    refine ⟨sb, so, (List.range len).map O, by simp, ⟨fun _ => ⟨rfl, hsb⟩, fun i o hi => ?_, fun o ho => ?_, fun o ho => ?_, by simp; omega⟩⟩
    · obtain ⟨hlt, rfl⟩ := hget i o hi
      exact (hO i hlt).1
    · obtain ⟨i, hi, rfl⟩ := hmem o ho
      exact ⟨(hO i hi).2.1, (hO i hi).2.2.1⟩
    · obtain ⟨i, hi, rfl⟩ := hmem o ho
      obtain ⟨_, _, _, h3, h4, h5⟩ := hO i hi
      rw [reach_is] at h5
      exact ⟨h3, h4, by omega⟩

set_option maxRecDepth 100000 in
theorem disks_lifted (os : Os) (started : os.Started) (H : Type) (enc : TypeId × Value → H) :
    ReturnsInHanded {} Try.checked os 3 .any (Rows.disksSpec.pre6 enc Try.prog Try.f3 Rows.disksRow.domain false) (Rows.disksSpec.post enc Try.prog Try.f3 false true false false) := by
  refine returnsInHanded_of_change_sized (C := Try.checked) own3 started (by kernel_rfl) Try.func3
    (ChangeSpec.witness6 (enc := enc) (C := Try.checked) false ⟨#[], #[.int .i64 0, .slice none 0 0], []⟩ 8 (by kernel_rfl) (by kernel_rfl) (by kernel_rfl) (by kernel_rfl)) ?_
  intro W base args ds gs before hval0 hW _ hsz0 _
  have hsz : (DataW.weightsEach Try.prog (Try.f3.params.toList ++ Rows.disksSpec.plain.varTypes Try.prog) (ds ++ gs)).all (· ≤ reachBytes) = true := hsz0
  clear hsz0
  have hval : ∀ (j : Nat) t v, Try.f3.params[j]? = some t → args[j]? = some v → Value.okWide Try.prog W .any base t v := hval0
  have hW' := hW
  obtain ⟨p, q, hA0, hV, rfl, hfz, hnd⟩ := hW
  have hA : DataW.TrodAll enc Try.prog W 0 (fun _ => true) true Try.f3.params.toList args.toList ds p := hA0
  rw [Try.params3] at hA hval hsz
  obtain ⟨v0, v1, d0, d1, p0, p1, rfl, rfl, rfl, h0, h1⟩ := trodAll_two hA
  obtain ⟨rfl, rfl⟩ := trodVars_none hV
  obtain ⟨m, rfl, rfl, rfl, wm⟩ := open_int Try.underlying3 (hval 0 3 v0 rfl rfl) h0
  obtain ⟨a0, len, cap, rfl⟩ := okWide_slice Try.underlying22 (hval 1 22 v1 rfl rfl)
  have h1k := h1
  obtain ⟨fuel, hf⟩ := h1
  clear hA0 hval0 hA
  simp only [List.append_nil, List.nil_append] at hW' hfz hsz
  have hlt : ∀ x ∈ p1, x.block < W.heap.size := fun x hx => hW'.lt x (by simp [hx])
  have hw1 : (d1.weights Try.prog 22).all (· ≤ reachBytes) = true := by
    refine List.all_eq_true.2 fun y hy => List.all_eq_true.1 hsz y (DataW.weights_mem_each (j := 1) (t := 22) (d := d1) rfl rfl y hy)
  obtain ⟨sb, so, ops, hol, hs⟩ := script_open hf hw1
  have hwalk : Calls Try.prog 3 #[.int .i64 m, .slice a0 len cap] W fun e w' => e = .returned (.bool true) ∧ Below W.heap.size W w' := by
    by_cases hm : 1 ≤ m ∧ m ≤ 200
    · obtain ⟨n, rfl⟩ : ∃ n : Nat, m = n := ⟨m.toNat, by omega⟩
      have := disks_yes n W a0 sb so cap ops (by omega) (by omega) hs
      rw [hol] at this
      exact this
    · refine (disks_no m _ W (by omega)).mono ?_
      rintro e w' ⟨he, rfl⟩
      exact ⟨he, Below.refl _ _⟩
  refine hwalk.mono fun e W' ⟨he, hb⟩ => ?_
  subst he
  refine ⟨_, rfl, _, _, _, [], p1, [], hW', ?_, ?_, rfl, hb.frame _, fun h => by cases h⟩
  · exact trodAll_mk1 (shut_bool Try.underlying4 true)
  · exact trodAll_mk2 (shut_int Try.underlying3 wm) (hb.trod laidOut3 (by kernel_rfl) (of_decide_eq_true (by kernel_rfl)) h1k hlt)

theorem disks_holds : Rows.DisksSaid :=
  OpenClaim.holds_of_wide 3 Try.f3 rfl rfl rfl rfl rfl rfl rfl ⟨rfl, rfl, rfl, rfl, rfl⟩ rfl rfl rfl rfl rfl (by kernel_rfl) Try.func3 (by kernel_rfl)
    (of_decide_eq_true (by kernel_rfl)) (by unfold Func.isWrapper; rw [if_neg (of_decide_eq_false (by kernel_rfl))]; exact ⟨rfl, rfl⟩)
    (fun os started H enc _ => disks_lifted os started H enc)

#print axioms disks_holds
end Go.Proofs.Ytmecbbbopbndmaa
