import Derived.WalkKit
import Derived.Laws.StructEq
namespace Go
section
variable {P : Program} (w : World)

theorem run_part_num (e : TypeId) (k : IntKind) (he : P.underlying e = some (.int k)) (cs : List Value) (i : Nat) (v : Value) (h : cs[i]? = some v) :
    (part e cs.toArray i).run P w = .ok v w := by
  have : cs.toArray[i]? = some v := by simpa using h
  simp [part, isAgg, run_underlying he, this]

theorem run_eqLoop (n : Nat) (p : Nat → Bool) (f : Nat → Option Bool × Unit → Sem (ForInStep (Option Bool × Unit)))
    (hf : ∀ i, i < n → ∀ r, (f i r).run P w = .ok (if p i then .yield (none, ()) else .done (some false, ())) w) :
    ∀ m s, s + m ≤ n → (forIn (List.range' s m 1) ((none, ()) : Option Bool × Unit) f).run P w = .ok (if (List.range' s m 1).all p then (none, ()) else (some false, ())) w := by
  intro m
  induction m with
  | zero => intro s _; simp [Sem.run_pure]
  | succ m ih =>
    intro s hs
    rw [List.range'_succ]
    simp only [List.forIn_cons, Sem.run_bind, hf s (by omega), Result.andThen_ok, List.all_cons]
    by_cases hp : p s = true
    · simp only [hp, if_true, Bool.true_and]
      exact ih (s + 1) (by omega)
    · have hp' : p s = false := by simpa using hp
      simp [hp', Sem.run_pure]

theorem all_range_beq : ∀ (n : Nat) (xs ys : List Int), xs.length = n → ys.length = n → (List.range' 0 n 1).all (fun i => xs[i]?.getD 0 == ys[i]?.getD 0) = (xs == ys) := by
  intro n xs ys hx hy
  rw [Bool.eq_iff_iff, List.all_eq_true, beq_iff_eq]
  constructor
  · intro h
    apply List.ext_getElem (by omega)
    intro i h1 h2
    have := h i (by simp; omega)
    simpa [h1, h2] using this
  · rintro rfl i _
    simp

/-- '==' of two arrays of numbers of one kind. -/
theorem run_equalIn_ints (d : Nat) (t e : TypeId) (k k' : IntKind) (n : Nat) (xs ys : List Int) (ht : P.underlying t = some (.array n e)) (he : P.underlying e = some (.int k'))
    (hs : (P.info? e).map (·.size) = some 1) (hx : xs.length = n) (hy : ys.length = n) :
    (Op.equalIn (d + 2) t (.agg (xs.map (Value.int k)).toArray) (.agg (ys.map (Value.int k)).toArray)).run P w = .ok (xs == ys) w := by
  have hsz : (sizeOf e).run P w = .ok 1 w := by
    cases hq : P.info? e with
    | none => simp [hq] at hs
    | some i => simp [hq] at hs; simp [sizeOf, typeInfo, hq, hs]
  have hin : ∀ a b, (Op.equalIn (d + 1) e (.int k a) (.int k b)).run P w = .ok (a == b) w := fun a b => run_equalIn_int w d e k k' a b he
  rw [Op.equalIn]
  generalize Op.equalIn (d + 1) = E at hin
  simp only [Sem.run_bind, run_underlying ht, Result.andThen_ok, hsz]
  rw [Std.Legacy.Range.forIn_eq_forIn_range']
  have hl := run_eqLoop (P := P) w n (fun i => xs[i]?.getD 0 == ys[i]?.getD 0) (fun i __s => do
            let __do_lift ← part e (List.map (Value.int k) xs).toArray (i * 1)
            let __do_lift_1 ← part e (List.map (Value.int k) ys).toArray (i * 1)
            let __do_lift ← E e __do_lift __do_lift_1
            if (!__do_lift) = true then pure (ForInStep.done (some false, ())) else pure (ForInStep.yield (none, ()))) (by
    intro i hi r
    have h1 : (xs.map (Value.int k))[i]? = some (.int k (xs[i]?.getD 0)) := by simp [hx, hi]
    have h2 : (ys.map (Value.int k))[i]? = some (.int k (ys[i]?.getD 0)) := by simp [hy, hi]
    simp only [Nat.mul_one, Sem.run_bind, run_part_num w e k' he _ i _ h1, run_part_num w e k' he _ i _ h2, Result.andThen_ok, hin]
    cases (xs[i]?.getD 0 == ys[i]?.getD 0) <;> simp [Sem.run_pure]) n 0 (by omega)
  have hz : (List.range' [:n].start [:n].size [:n].step) = List.range' 0 n 1 := by simp
  rw [hz, hl, all_range_beq n xs ys hx hy]
  cases (xs == ys) <;> simp [Sem.run_pure]

theorem run_eql_ints (t e : TypeId) (k k' : IntKind) (n : Nat) (xs ys : List Int) (ht : P.underlying t = some (.array n e)) (he : P.underlying e = some (.int k'))
    (hs : (P.info? e).map (·.size) = some 1) (hx : xs.length = n) (hy : ys.length = n) :
    (binOp .eql t (.agg (xs.map (Value.int k)).toArray) (.agg (ys.map (Value.int k)).toArray)).run P w = .ok (.bool (xs == ys)) w := by
  rw [run_eql_struct, show (10000 : Nat) = 9998 + 2 from rfl, run_equalIn_ints w 9998 t e k k' n xs ys ht he hs hx hy]
  simp
end
end Go
