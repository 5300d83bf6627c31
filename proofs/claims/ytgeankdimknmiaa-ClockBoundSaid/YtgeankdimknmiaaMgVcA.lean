/- Texts that the claim hangs on, in one. -/
import Derived.Test.YtgeankdimknmiaaRatLe
import Derived.Test.YtgeankdimknmiaaRatFm
import Derived.Test.YtgeankdimknmiaaRatOm
import Derived.Test.YtgeankdimknmiaaHpL
import Derived.ScopeJumps
/- Clocks: the fraction of a number by a rate: plain numbers. -/
namespace Go.Proofs.Ytgeankdimknmiaa.Hp
set_option linter.unusedVariables false
open Go.RowKit
/-- c by r, cut. -/
def frN (c r : Int) : Int := ((c.toNat / Nat.gcd c.toNat r.toNat : Nat) : Int)
def frD (c r : Int) : Int := ((r.toNat / Nat.gcd c.toNat r.toNat : Nat) : Int)
/-- numbers that a clock may have, and rates. -/
def ClkB (c r : Int) : Prop := 0 ≤ c ∧ c ≤ 4000000000000000000 ∧ 1 ≤ r ∧ r ≤ 1000000
theorem fr_right {c r : Int} (h : ClkB c r) : RM.Right (frN c r) (frD c r) ∧ frN c r * r = c * frD c r := by
  obtain ⟨h0, h1, h2, h3⟩ := h
  obtain ⟨m, rfl⟩ := Int.eq_ofNat_of_zero_le h0
  obtain ⟨k, rfl⟩ := Int.eq_ofNat_of_zero_le (show 0 ≤ r by omega)
  unfold frN frD
  simp only [Int.toNat_natCast]
  have hk : 0 < k := by omega
  have hg : 0 < Nat.gcd m k := Nat.gcd_pos_of_pos_right _ hk
  have e1 : m / Nat.gcd m k * Nat.gcd m k = m := Nat.div_mul_cancel (Nat.gcd_dvd_left m k)
  have e2 : k / Nat.gcd m k * Nat.gcd m k = k := Nat.div_mul_cancel (Nat.gcd_dvd_right m k)
  have l1 : m / Nat.gcd m k ≤ m := Nat.div_le_self _ _
  have l2 : k / Nat.gcd m k ≤ k := Nat.div_le_self _ _
  have p2 : 0 < k / Nat.gcd m k := Nat.div_pos (Nat.le_of_dvd hk (Nat.gcd_dvd_right m k)) hg
  have cop : Nat.gcd (m / Nat.gcd m k) (k / Nat.gcd m k) = 1 := Nat.coprime_div_gcd_div_gcd hg
  generalize m / Nat.gcd m k = u at *
  generalize k / Nat.gcd m k = v at *
  generalize Nat.gcd m k = g at *
  refine ⟨⟨by omega, by omega, by omega, by omega, ?_⟩, ?_⟩
  · rw [Int.natAbs_natCast, Int.natAbs_natCast]
    exact cop
  · have e : u * k = m * v := by
      rw [← e1, ← e2, Nat.mul_comm v g, Nat.mul_assoc]
    exact_mod_cast e
theorem fr_pos {c r : Int} (h : ClkB c r) : 1 ≤ frD c r := (fr_right h).1.1
theorem fr_uniq {c r n d : Int} (h : ClkB c r) (hn : RM.Right n d) (e : n * r = c * d) : n = frN c r ∧ d = frD c r := by
  obtain ⟨h1, h2⟩ := fr_right h
  refine RM.right_unique n d (frN c r) (frD c r) hn h1 ?_
  refine Int.eq_of_mul_eq_mul_right (a := r) (by have := h.2.2.1; omega) ?_
  calc n * frD c r * r = (n * r) * frD c r := by rw [Int.mul_assoc, Int.mul_comm (frD c r) r, ← Int.mul_assoc]
    _ = c * d * frD c r := by rw [e]
    _ = (c * frD c r) * d := by rw [Int.mul_assoc, Int.mul_comm d, ← Int.mul_assoc]
    _ = frN c r * r * d := by rw [h2]
    _ = frN c r * d * r := by rw [Int.mul_assoc, Int.mul_comm r d, ← Int.mul_assoc]
theorem fr_rightB {c r : Int} (h : ClkB c r) : rightB (frN c r) (frD c r) = true := rightB_of _ _ (fr_right h).1
theorem fr_bounds {c r : Int} (h : ClkB c r) : -9223372036854775808 ≤ frN c r ∧ frN c r ≤ 9223372036854775807 ∧ -9223372036854775808 ≤ frD c r ∧ frD c r ≤ 9223372036854775807 := by
  obtain ⟨a, b, c, d, _⟩ := (fr_right h).1
  omega
theorem fr_make {s r : Int} (h : ClkB s r) : makeR s r = (frN s r, frD s r, 0) := by
  obtain ⟨h0, h1, h2, h3⟩ := h
  unfold makeR
  rw [show decide (s < 0) = false from decide_eq_false (by omega), show decide (r < 0) = false from decide_eq_false (by omega)]
  refine (RM.fracN_ok _ _ _ (by omega) _ _).2 ⟨(fr_right ⟨h0, h1, h2, h3⟩).1, ?_⟩
  have e := (fr_right ⟨h0, h1, h2, h3⟩).2
  have a : ((r.natAbs : Nat) : Int) = r := by omega
  have b : RM.sgn (false != false) s.natAbs = s := by
    show RM.sgn false s.natAbs = s
    unfold RM.sgn
    simp
    omega
  rw [a, b]
  exact e
/-- a whole number. -/
theorem fr_whole {n r : Int} (h : ClkB (n * r) r) (h0 : 0 ≤ n) (h1 : n ≤ 2147483647) : frN (n * r) r = n ∧ frD (n * r) r = 1 := by
  obtain ⟨a, b⟩ := fr_uniq h (n := n) (d := 1) ⟨by omega, by omega, by omega, by omega, by simp⟩ (by omega)
  exact ⟨a.symm, b.symm⟩
theorem fr_plus {c s r : Int} (hc : ClkB c r) (hs : ClkB s r) (h : ClkB (c + s) r) : addR (frN c r) (frD c r) (frN s r) (frD s r) = (frN (c + s) r, frD (c + s) r, 0) := by
  unfold addR
  rw [fr_rightB hc, fr_rightB hs]
  simp only [Bool.and_self, if_true]
  refine (RM.plusR_ok _ _ _ _ _ _ (fr_pos hc) (fr_pos hs)).2 ⟨(fr_right h).1, ?_⟩
  have e1 := (fr_right hc).2
  have e2 := (fr_right hs).2
  have e3 := (fr_right h).2
  generalize frN c r = x at *
  generalize frD c r = d at *
  generalize frN s r = y at *
  generalize frD s r = e at *
  generalize frN (c + s) r = N at *
  generalize frD (c + s) r = D at *
  refine Int.eq_of_mul_eq_mul_right (a := r) (by have := h.2.2.1; omega) ?_
  calc N * (d * e) * r = (N * r) * (d * e) := by grind
    _ = (c + s) * D * (d * e) := by rw [e3]
    _ = ((c * d) * e + (s * e) * d) * D := by grind
    _ = ((x * r) * e + (y * r) * d) * D := by rw [e1, e2]
    _ = (x * e + y * d) * D * r := by grind
/-- of two by one rate that is less which is less above. -/
theorem fr_lt {c c' r : Int} (h : ClkB c r) (h' : ClkB c' r) : frN c r * frD c' r < frN c' r * frD c r ↔ c < c' := by
  have e1 := (fr_right h).2
  have e2 := (fr_right h').2
  have p1 := fr_pos h
  have p2 := fr_pos h'
  have hr := h.2.2.1
  have hP : 0 < frD c r * frD c' r := Int.mul_pos (by omega) (by omega)
  have a1 : frN c r * frD c' r * r = c * (frD c r * frD c' r) := by
    rw [Int.mul_assoc, Int.mul_comm (frD c' r) r, ← Int.mul_assoc, e1, Int.mul_assoc]
  have a2 : frN c' r * frD c r * r = c' * (frD c r * frD c' r) := by
    rw [Int.mul_assoc, Int.mul_comm (frD c r) r, ← Int.mul_assoc, e2, Int.mul_assoc, Int.mul_comm (frD c' r)]
  constructor
  · intro q
    have q2 := Int.mul_lt_mul_of_pos_right q (show 0 < r by omega)
    rw [a1, a2] at q2
    exact Int.lt_of_mul_lt_mul_right q2 (by omega)
  · intro q
    have q2 := Int.mul_lt_mul_of_pos_right q hP
    rw [← a1, ← a2] at q2
    exact Int.lt_of_mul_lt_mul_right q2 (by omega)
theorem ord_sgn (p q : Int) : 0 < ordZ p q ↔ q < p := by
  rcases ordZ_cases p q with ⟨h, h2⟩ | ⟨h, h2⟩ | ⟨h, h2⟩ <;> rw [h] <;> omega
/-- the greater of a clock and a tick. -/
theorem fr_greatest {c r n : Int} (hc : ClkB c r) (hn : ClkB (n * r) r) (h0 : 0 ≤ n) (h1 : n ≤ 2147483647) : GreatestR [(frN c r, frD c r), (n, 1)] = (frN (max c (n * r)) r, frD (max c (n * r)) r, 0) := by
  obtain ⟨w1, w2⟩ := fr_whole hn h0 h1
  have hl := fr_lt hc hn
  rw [w1, w2] at hl
  have hm : moreB (n, 1) (frN c r, frD c r) = decide (c < n * r) := by
    unfold moreB
    rw [Bool.eq_iff_iff, decide_eq_true_iff, decide_eq_true_iff, ord_sgn]
    exact hl
  have hr : rightB n 1 = true := rightB_of _ _ ⟨by omega, by omega, by omega, by omega, by simp⟩
  unfold GreatestR
  rw [show allRight [(frN c r, frD c r), (n, 1)] = true from by unfold allRight; simp [fr_rightB hc, hr]]
  simp only [if_true, firstR, foldR, pickF, hm]
  by_cases hlt : c < n * r
  · rw [show max c (n * r) = n * r by omega, w1, w2]
    simp [hlt]
  · rw [show max c (n * r) = c by omega]
    simp [hlt]
end Go.Proofs.Ytgeankdimknmiaa.Hp

/- Clocks: a queue's memory: its two maps, its flows, its heap. -/
namespace Go.Proofs.Ytgeankdimknmiaa.Hp
set_option linter.unusedVariables false
open Go.RowKit Go.Maps Go.Sort Go.Proofs.Ytgeankdimknmiaa.Tp
abbrev Pk := Int × Int × Int
def pkA (x : Pk) : Value := .agg #[.int .i64 x.1, .int .i64 x.2.1, .int .i64 x.2.2]
def pkV (o : Option Pk) : Value := pkA (o.getD (0, 0, 0))
def pkD (x : Pk) : DataW Unit := .agg [.lit (.int .i64 x.1), .lit (.int .i64 x.2.1), .lit (.int .i64 x.2.2)]
theorem pkD_inj {a b : Pk} (h : pkD a = pkD b) : a = b := by
  obtain ⟨a0, a1, a2⟩ := a
  obtain ⟨b0, b1, b2⟩ := b
  unfold pkD at h
  simp at h
  simp [h]
theorem pkA_inj {a b : Pk} (h : pkA a = pkA b) : a = b := by
  obtain ⟨a0, a1, a2⟩ := a
  obtain ⟨b0, b1, b2⟩ := b
  unfold pkA at h
  simp at h
  simp [h]
open Classical in
/-- how a packet in a map reads. -/
noncomputable def pkR (v : Value) : Option (DataW Unit × List MemPlace) := if h : ∃ x : Pk, v = pkA x then some (pkD h.choose, []) else none
theorem pkR_mk (x : Pk) : pkR (pkA x) = some (pkD x, []) := by
  have h : ∃ y : Pk, pkA x = pkA y := ⟨x, rfl⟩
  unfold pkR
  rw [dif_pos h, pkA_inj h.choose_spec.symm]
theorem pkR_inv {v : Value} {z : DataW Unit × List MemPlace} (h : pkR v = some z) : ∃ x, v = pkA x ∧ z = (pkD x, []) := by
  unfold pkR at h
  split at h
  · rename_i q; cases h; exact ⟨_, q.choose_spec, rfl⟩
  · cases h
/-- how a flow in a map reads: by its block. -/
def flR (v : Value) : Option (DataW Unit × List MemPlace) := match v with
  | .pointer none => some (.nil, [])
  | .pointer (some ⟨b, 0, none⟩) => some (.lit (.int .i64 (b : Int)), [])
  | _ => none
def flD (o : Option Nat) : DataW Unit := match o with | none => .nil | some b => .lit (.int .i64 (b : Int))
def flV (o : Option Nat) : Value := .pointer (o.map fun b => ⟨b, 0, none⟩)
theorem flR_mk (o : Option Nat) : flR (flV o) = some (flD o, []) := by cases o <;> rfl
theorem flR_inv {v : Value} {z : DataW Unit × List MemPlace} (h : flR v = some z) : ∃ o, v = flV o ∧ z = (flD o, []) := by
  unfold flR at h
  split at h
  · cases h; exact ⟨none, rfl, rfl⟩
  · rename_i b; cases h; exact ⟨some b, rfl, rfl⟩
  · cases h
theorem flD_inj {a b : Option Nat} (h : flD a = flD b) : a = b := by
  cases a <;> cases b <;> simp [flD] at h
  · rfl
  · congr 1; omega
/-- the packets' map holds just these. -/
def PkM (W : World) (pb n : Nat) (p : Int → Option Pk) : Prop := ∃ D, W.ownsMap Try.prog 2 pkR pb n D ∧ ∀ x, has D (key x) = (p x).isSome ∧ ∀ z, D.atKey (key x) z = match p x with | some y => pkD y | none => z
/-- the flows' map holds just these. -/
def FlM (W : World) (fb n : Nat) (f : Int → Option Nat) : Prop := ∃ D, W.ownsMap Try.prog 2 flR fb n D ∧ Maps.size D = n ∧ ∀ x, has D (key x) = (f x).isSome ∧ ∀ z, D.atKey (key x) z = match f x with | some b => flD (some b) | none => z
section
variable {W W' : World} {pb fb n : Nat} {p : Int → Option Pk} {f : Int → Option Nat}
theorem own_to {R : Value → Option (DataW Unit × List MemPlace)} {b n : Nat} {D : DataW Unit} (h : W.ownsMap Try.prog 2 R b n D) (e : W'.heap[b]? = W.heap[b]?) : W'.ownsMap Try.prog 2 R b n D := by
  obtain ⟨es, c, hb, F, hs, hD⟩ := h
  exact ⟨es, c, e.trans hb, F, hs, hD⟩
theorem PkM.to (h : PkM W pb n p) (e : W'.heap[pb]? = W.heap[pb]?) : PkM W' pb n p := by
  obtain ⟨D, h1, h2⟩ := h
  exact ⟨D, own_to h1 e, h2⟩
theorem FlM.to (h : FlM W fb n f) (e : W'.heap[fb]? = W.heap[fb]?) : FlM W' fb n f := by
  obtain ⟨D, h1, h2⟩ := h
  exact ⟨D, own_to h1 e, h2⟩
theorem PkM.blk (h : PkM W pb n p) : ∃ es c, W.heap[pb]? = some (.map es c) := by
  obtain ⟨D, ⟨es, c, hb, _⟩, _⟩ := h
  exact ⟨es, c, hb⟩
theorem FlM.blk (h : FlM W fb n f) : ∃ es c, W.heap[fb]? = some (.map es c) := by
  obtain ⟨D, ⟨es, c, hb, _⟩, _⟩ := h
  exact ⟨es, c, hb⟩
theorem has_none (x : Int) : has (DataW.map [] : DataW Unit) (key x) = false := rfl
theorem PkM.new (w : World) : PkM (w.alloc (.map #[] 0)) w.heap.size 0 (fun _ => none) := ⟨_, World.ownsMap_made w _ _ _, fun x => ⟨rfl, fun z => rfl⟩⟩
theorem FlM.new (w : World) : FlM (w.alloc (.map #[] 0)) w.heap.size 0 (fun _ => none) := ⟨_, World.ownsMap_made w _ _ _, rfl, fun x => ⟨rfl, fun z => rfl⟩⟩
theorem zeroPk (w : World) : (zeroValue 31).run Try.prog w = .ok (.agg #[.int .i64 0, .int .i64 0, .int .i64 0]) w := by kernel_rfl
theorem zeroFl (w : World) : (zeroValue 62).run Try.prog w = .ok (.pointer none) w := by kernel_rfl
theorem PkM.look (h : PkM W pb n p) {x : Int} (h0 : -9223372036854775808 ≤ x) (h1 : x ≤ 9223372036854775807) :
    (Instr.lookup 54 (.map (some pb)) (.int .i64 x) false).run Try.prog W = .ok (pkV (p x)) W ∧ (Instr.lookup 54 (.map (some pb)) (.int .i64 x) true).run Try.prog W = .ok (.tuple #[pkV (p x), .bool (p x).isSome]) W := by
  obtain ⟨D, hD, hp⟩ := h
  obtain ⟨v, ps, hr, hv⟩ := hD.lookup keysK Try.underlying54 (zeroPk W) (zd := pkD (0, 0, 0)) (zp := []) (pkR_mk (0, 0, 0)) (keyOfK h0 h1)
  obtain ⟨v2, ps2, hr2, hv2⟩ := hD.look_ok keysK Try.underlying54 (zeroPk W) (zd := pkD (0, 0, 0)) (zp := []) (pkR_mk (0, 0, 0)) (keyOfK h0 h1)
  have e : D.atKey (key x) (pkD (0, 0, 0)) = pkD ((p x).getD (0, 0, 0)) := by
    rw [(hp x).2]
    cases p x <;> rfl
  have un : ∀ u : Value, ∀ qs, pkR u = some (D.atKey (key x) (pkD (0, 0, 0)), qs) → u = pkV (p x) := fun u qs hu => by
    obtain ⟨y, rfl, hz⟩ := pkR_inv hu
    have h2 := congrArg Prod.fst hz
    rw [e] at h2
    unfold pkV
    rw [pkD_inj h2]
  rw [un v ps hv] at hr
  rw [un v2 ps2 hv2, (hp x).1] at hr2
  exact ⟨hr, hr2⟩
theorem FlM.look (h : FlM W fb n f) {x : Int} (h0 : -9223372036854775808 ≤ x) (h1 : x ≤ 9223372036854775807) :
    (Instr.lookup 55 (.map (some fb)) (.int .i64 x) false).run Try.prog W = .ok (flV (f x)) W ∧ (Instr.lookup 55 (.map (some fb)) (.int .i64 x) true).run Try.prog W = .ok (.tuple #[flV (f x), .bool (f x).isSome]) W := by
  obtain ⟨D, hD, -, hp⟩ := h
  obtain ⟨v, ps, hr, hv⟩ := hD.lookup keysK Try.underlying55 (zeroFl W) (zd := .nil) (zp := []) rfl (keyOfK h0 h1)
  obtain ⟨v2, ps2, hr2, hv2⟩ := hD.look_ok keysK Try.underlying55 (zeroFl W) (zd := .nil) (zp := []) rfl (keyOfK h0 h1)
  have e : D.atKey (key x) .nil = flD (f x) := by
    rw [(hp x).2]
    cases f x <;> rfl
  have un : ∀ u : Value, ∀ qs, flR u = some (D.atKey (key x) .nil, qs) → u = flV (f x) := fun u qs hu => by
    obtain ⟨o, rfl, hz⟩ := flR_inv hu
    have h2 := congrArg Prod.fst hz
    rw [e] at h2
    rw [flD_inj h2]
  rw [un v ps hv] at hr
  rw [un v2 ps2 hv2, (hp x).1] at hr2
  exact ⟨hr, hr2⟩
theorem FlM.len (h : FlM W fb n f) (ty : TypeId) : (Builtin.len_ #[55] ty #[.map (some fb)]).run Try.prog W = .ok (.int .i64 (n : Int)) W := by
  obtain ⟨D, hD, hs, -⟩ := h
  rw [← hs]
  exact hD.len Try.underlying55 ty
theorem FlM.put (h : FlM W fb n f) {x : Int} (h0 : -9223372036854775808 ≤ x) (h1 : x ≤ 9223372036854775807) (hf : f x = none) (hn : n < 1000000) (b : Nat) :
    ∃ W', (Instr.mapUpdate 55 (.map (some fb)) (.int .i64 x) (.pointer (some ⟨b, 0, none⟩))).run Try.prog W = .ok () W' ∧ FlM W' fb (n + 1) (fun y => if y = x then some b else f y) ∧ W.grownBy W' (some fb) := by
  obtain ⟨D, hD, hs, hp⟩ := h
  obtain ⟨W', hr, ho, hg⟩ := hD.update keysK Try.underlying55 (by unfold maxLen; omega) (keyOfK h0 h1) (flR_mk (some b))
  refine ⟨W', hr, ⟨_, ho, ?_, fun y => ?_⟩, hg⟩
  · rw [size_put (hD.tidy keysK), (hp x).1, hf, hs]
    rfl
  · by_cases e : y = x
    · subst e
      dsimp only; rw [if_pos rfl]
      exact ⟨has_put_same hD.isMap (isKey y) _, fun z => atKey_put_same hD.isMap (isKey y) _ z⟩
    · dsimp only; rw [if_neg e]
      have hk : key y ≠ key x := fun q => e (key_inj q)
      exact ⟨(has_put_other hk _).trans (hp y).1, fun z => (atKey_put_other hk _ z).trans ((hp y).2 z)⟩
theorem PkM.put (h : PkM W pb n p) {x : Int} (h0 : -9223372036854775808 ≤ x) (h1 : x ≤ 9223372036854775807) (hn : n < 1000000) (y : Pk) :
    ∃ W', (Instr.mapUpdate 54 (.map (some pb)) (.int .i64 x) (.agg #[.int .i64 y.1, .int .i64 y.2.1, .int .i64 y.2.2])).run Try.prog W = .ok () W' ∧ PkM W' pb (n + 1) (fun k => if k = x then some y else p k) ∧ W.grownBy W' (some pb) := by
  obtain ⟨D, hD, hp⟩ := h
  obtain ⟨W', hr, ho, hg⟩ := hD.update keysK Try.underlying54 (by unfold maxLen; omega) (keyOfK h0 h1) (pkR_mk y)
  refine ⟨W', hr, ⟨_, ho, fun k => ?_⟩, hg⟩
  by_cases e : k = x
  · subst e
    dsimp only; rw [if_pos rfl]
    exact ⟨has_put_same hD.isMap (isKey k) _, fun z => atKey_put_same hD.isMap (isKey k) _ z⟩
  · dsimp only; rw [if_neg e]
    have hk : key k ≠ key x := fun q => e (key_inj q)
    exact ⟨(has_put_other hk _).trans (hp k).1, fun z => (atKey_put_other hk _ z).trans ((hp k).2 z)⟩
theorem PkM.del (h : PkM W pb n p) {x : Int} (h0 : -9223372036854775808 ≤ x) (h1 : x ≤ 9223372036854775807) (ty : TypeId) :
    ∃ W', (Builtin.delete_ #[54, 2] ty #[.map (some pb), .int .i64 x]).run Try.prog W = .ok (.tuple #[]) W' ∧ PkM W' pb n (fun k => if k = x then none else p k) ∧ W.grownBy W' (some pb) := by
  obtain ⟨D, hD, hp⟩ := h
  obtain ⟨W', hr, ho, hg⟩ := hD.drop keysK Try.underlying54 (keyOfK h0 h1) ty
  refine ⟨W', hr, ⟨_, ho, fun k => ?_⟩, hg.grown⟩
  by_cases e : k = x
  · subst e
    dsimp only; rw [if_pos rfl]
    exact ⟨has_del_same, fun z => atKey_del_same z⟩
  · dsimp only; rw [if_neg e]
    have hk : key k ≠ key x := fun q => e (key_inj q)
    exact ⟨(has_del_other hk).trans (hp k).1, fun z => (atKey_del_other hk z).trans ((hp k).2 z)⟩
end
end Go.Proofs.Ytgeankdimknmiaa.Hp

/- Clocks: a queue, told by its flows and by what waits. -/
namespace Go.Proofs.Ytgeankdimknmiaa.Hp
set_option linter.unusedVariables false
open Go.RowKit Go.Maps Go.Sort Go.Proofs.Ytgeankdimknmiaa.Tp
/-- a flow: its clock is c by its rate; its block. -/
structure Fw where
  id : Int
  rate : Int
  room : Int
  bytes : Int
  c : Int
  blk : Nat
def fwObj (f : Fw) : Obj := .cells #[.int .i64 f.id, .int .i64 f.rate, .int .i64 f.room, .int .i64 f.bytes, .int .i64 (frN f.c f.rate), .int .i64 (frD f.c f.rate)] 66 (0, 0)
def blkOf (F : List Fw) (x : Int) : Option Nat := (F.find? fun f => decide (f.id = x)).map Fw.blk
def pkOf (M : List It) (X : Int → Int × Int) (x : Int) : Option Pk := if ∃ y ∈ M, iD y = x then some (x, X x) else none
theorem blkOf_in {F : List Fw} (nd : (F.map Fw.id).Nodup) {f : Fw} (hf : f ∈ F) : blkOf F f.id = some f.blk := by
  unfold blkOf
  induction F with
  | nil => cases hf
  | cons g F ih =>
    simp only [List.map_cons, List.nodup_cons] at nd
    rw [List.find?_cons]
    rcases List.mem_cons.1 hf with rfl | hf
    · simp
    · have hne : ¬ g.id = f.id := fun e => nd.1 (e ▸ List.mem_map_of_mem hf)
      rw [decide_eq_false hne]
      exact ih nd.2 hf
theorem blkOf_out {F : List Fw} {x : Int} (h : ∀ f ∈ F, f.id ≠ x) : blkOf F x = none := by
  unfold blkOf
  rw [List.find?_eq_none.2 (fun f hf => by simp [h f hf])]
  rfl
theorem blkOf_some {F : List Fw} {x : Int} {b : Nat} (h : blkOf F x = some b) : ∃ f ∈ F, f.id = x ∧ f.blk = b := by
  unfold blkOf at h
  cases e : F.find? (fun f => decide (f.id = x)) with
  | none => rw [e] at h; cases h
  | some f =>
    rw [e] at h
    have h1 := List.find?_some e
    exact ⟨f, List.mem_of_find?_eq_some e, of_decide_eq_true h1, by cases h; rfl⟩
theorem blkOf_snoc {F : List Fw} (f : Fw) (h : ∀ g ∈ F, g.id ≠ f.id) : (fun y => if y = f.id then some f.blk else blkOf F y) = blkOf (F ++ [f]) := by
  funext y
  unfold blkOf
  rw [List.find?_append]
  by_cases e : y = f.id
  · subst e
    rw [if_pos rfl, List.find?_eq_none.2 (fun g hg => by simp [h g hg])]
    simp
  · rw [if_neg e]
    have : ¬ f.id = y := fun q => e q.symm
    simp [this]
/-- a flow is another one, of the same ID, in the same block. -/
def upF (f' : Fw) (g : Fw) : Fw := if g.id = f'.id then f' else g
theorem upF_id (f' g : Fw) : (upF f' g).id = g.id := by
  unfold upF; split
  · rename_i h; exact h.symm
  · rfl
theorem upF_ids (F : List Fw) (f' : Fw) : (F.map (upF f')).map Fw.id = F.map Fw.id := by
  rw [List.map_map]
  exact List.map_congr_left (fun g _ => upF_id f' g)
theorem uniqF {F : List Fw} (nd : (F.map Fw.id).Nodup) {f g : Fw} (hf : f ∈ F) (hg : g ∈ F) (e : f.id = g.id) : f = g := by
  induction F with
  | nil => cases hf
  | cons a F ih =>
    simp only [List.map_cons, List.nodup_cons] at nd
    rcases List.mem_cons.1 hf with h1 | h1 <;> rcases List.mem_cons.1 hg with h2 | h2
    · rw [h1, h2]
    · rw [h1] at e; exact absurd (e ▸ List.mem_map_of_mem h2) nd.1
    · rw [h2] at e; exact absurd (e ▸ List.mem_map_of_mem h1) nd.1
    · exact ih nd.2 h1 h2
theorem upF_blks {F : List Fw} (nd : (F.map Fw.id).Nodup) {f f' : Fw} (hf : f ∈ F) (e1 : f'.id = f.id) (e2 : f'.blk = f.blk) : (F.map (upF f')).map Fw.blk = F.map Fw.blk := by
  rw [List.map_map]
  refine List.map_congr_left (fun g hg => ?_)
  show (upF f' g).blk = g.blk
  unfold upF
  split
  · rename_i h
    rw [e2, uniqF nd hf hg (by rw [h, e1])]
  · rfl
theorem blkOf_up {F : List Fw} (nd : (F.map Fw.id).Nodup) {f f' : Fw} (hf : f ∈ F) (e1 : f'.id = f.id) (e2 : f'.blk = f.blk) : blkOf (F.map (upF f')) = blkOf F := by
  funext y
  by_cases h : ∃ g ∈ F, g.id = y
  · obtain ⟨g, hg, rfl⟩ := h
    rw [blkOf_in nd hg]
    have hm : upF f' g ∈ F.map (upF f') := List.mem_map_of_mem hg
    have := blkOf_in (F := F.map (upF f')) (by rw [upF_ids]; exact nd) hm
    rw [upF_id] at this
    rw [this]
    unfold upF
    split
    · rename_i h
      rw [e2, uniqF nd hf hg (by rw [h, e1])]
    · rfl
  · rw [blkOf_out (fun g hg e => h ⟨g, hg, e⟩), blkOf_out (fun g hg e => ?_)]
    obtain ⟨g0, hg0, rfl⟩ := List.mem_map.1 hg
    exact h ⟨g0, hg0, by rw [← e, upF_id]⟩
theorem pkOf_snoc {M : List It} {X : Int → Int × Int} {y : It} {v : Int × Int} (h : ¬ ∃ x ∈ M, iD x = iD y) : (fun k => if k = iD y then some ((iD y, v) : Pk) else pkOf M X k) = pkOf (M ++ [y]) (fun i => if i = iD y then v else X i) := by
  funext k
  unfold pkOf
  by_cases e : k = iD y
  · subst e
    simp
  · have : (∃ x ∈ M ++ [y], iD x = k) ↔ ∃ x ∈ M, iD x = k := by
      constructor
      · rintro ⟨x, hx, rfl⟩
        rcases List.mem_append.1 hx with hx | hx
        · exact ⟨x, hx, rfl⟩
        · rw [List.mem_singleton.1 hx] at e; exact absurd rfl e
      · rintro ⟨x, hx, rfl⟩
        exact ⟨x, List.mem_append_left _ hx, rfl⟩
    simp only [if_neg e, this]
theorem pkOf_erase {M : List It} {X : Int → Int × Int} {x : It} (hx : x ∈ M) (nd : M.Nodup) (ids : ∀ y ∈ M, iD y = iD x → y = x) : (fun k => if k = iD x then none else pkOf M X k) = pkOf (M.erase x) X := by
  funext k
  unfold pkOf
  by_cases e : k = iD x
  · subst e
    rw [if_pos rfl, if_neg]
    rintro ⟨y, hy, e2⟩
    have h1 := List.mem_of_mem_erase hy
    have h2 := ids y h1 e2
    subst h2
    exact (nd.mem_erase_iff.1 hy).1 rfl
  · rw [if_neg e]
    have : (∃ y ∈ M.erase x, iD y = k) ↔ ∃ y ∈ M, iD y = k := by
      constructor
      · rintro ⟨y, hy, rfl⟩; exact ⟨y, List.mem_of_mem_erase hy, rfl⟩
      · rintro ⟨y, hy, rfl⟩; exact ⟨y, nd.mem_erase_iff.2 ⟨fun q => e (by rw [q]), hy⟩, rfl⟩
    simp only [this]
theorem Tur.nodup {M : List It} {T : Int} (h : Tur M T) : M.Nodup := List.Pairwise.of_map tN (fun a b hne e => hne (by rw [e])) h.nd
def QS (tb pb fb : Nat) (R : Nat → Prop) (q : Nat) (F : List Fw) (k : Nat) : Prop := k = q ∨ k = tb ∨ k = pb ∨ k = fb ∨ R k ∨ ∃ f ∈ F, f.blk = k
structure QuA (tb h pb fb : Nat) (R : Nat → Prop) (W : World) (q : Nat) (F : List Fw) (M : List It) (T : Int) (np : Nat) (X : Int → Int × Int) : Prop where
  q0 : W.heap[q]? = some (.cells #[.pointer (some ⟨tb, 0, none⟩)] 59 (0, 0))
  t0 : W.heap[tb]? = some (.cells #[.pointer (some ⟨h, 0, none⟩), .map (some pb), .map (some fb)] 57 (0, 0))
  hr : HR R W h M T
  pk : PkM W pb np (pkOf M X)
  fl : FlM W fb F.length (blkOf F)
  fs : ∀ f ∈ F, W.heap[f.blk]? = some (fwObj f)
  ok : ∀ f ∈ F, ClkB f.c f.rate ∧ (0 ≤ f.id ∧ f.id ≤ 2147483647) ∧ (0 ≤ f.room ∧ f.room ≤ 1000000000) ∧ (-(2000 * (T - M.length)) ≤ f.bytes ∧ f.bytes ≤ 2000 * T)
  it : ∀ y ∈ M, (∃ f ∈ F, f.id = (X (iD y)).1) ∧ 1 ≤ (X (iD y)).2 ∧ (X (iD y)).2 ≤ 2000
  nd : (F.map Fw.id).Nodup
  nb : (F.map Fw.blk).Nodup
  pf : pb ≠ fb
  nR : ¬ R q ∧ ¬ R tb ∧ ¬ R pb ∧ ¬ R fb ∧ ∀ f ∈ F, ¬ R f.blk
  tn : (M.length : Int) ≤ T ∧ (np : Int) ≤ T ∧ T ≤ 900000
section
variable {tb h pb fb : Nat} {R : Nat → Prop} {W W' : World} {q : Nat} {F : List Fw} {M : List It} {T : Int} {np : Nat} {X : Int → Int × Int}
theorem QuA.lt (H : QuA tb h pb fb R W q F M T np X) {k : Nat} (hk : QS tb pb fb R q F k) : k < W.heap.size := by
  rcases hk with rfl | rfl | rfl | rfl | hk | ⟨f, hf, rfl⟩
  · exact (Array.getElem?_eq_some_iff.1 H.q0).1
  · exact (Array.getElem?_eq_some_iff.1 H.t0).1
  · obtain ⟨es, c, e⟩ := H.pk.blk; exact (Array.getElem?_eq_some_iff.1 e).1
  · obtain ⟨es, c, e⟩ := H.fl.blk; exact (Array.getElem?_eq_some_iff.1 e).1
  · exact H.hr.lt k hk
  · exact (Array.getElem?_eq_some_iff.1 (H.fs f hf)).1
theorem QuA.keep (H : QuA tb h pb fb R W q F M T np X) (hb : ∀ k, QS tb pb fb R q F k → W'.heap[k]? = W.heap[k]?) : QuA tb h pb fb R W' q F M T np X :=
  ⟨(hb _ (.inl rfl)).trans H.q0, (hb _ (.inr (.inl rfl))).trans H.t0, H.hr.keep (fun k hk => hb k (.inr (.inr (.inr (.inr (.inl hk)))))), H.pk.to (hb _ (.inr (.inr (.inl rfl)))), H.fl.to (hb _ (.inr (.inr (.inr (.inl rfl))))), fun f hf => (hb _ (.inr (.inr (.inr (.inr (.inr ⟨f, hf, rfl⟩)))))).trans (H.fs f hf), H.ok, H.it, H.nd, H.nb, H.pf, H.nR, H.tn⟩
theorem QuA.below (H : QuA tb h pb fb R W q F M T np X) (hb : Below W.heap.size W W') : QuA tb h pb fb R W' q F M T np X := H.keep (fun k hk => hb.block k (H.lt hk))
/-- no two of a queue's blocks are one. -/
theorem QuA.apart (H : QuA tb h pb fb R W q F M T np X) : q ≠ tb ∧ q ≠ pb ∧ q ≠ fb ∧ tb ≠ pb ∧ tb ≠ fb ∧ ∀ f ∈ F, f.blk ≠ q ∧ f.blk ≠ tb ∧ f.blk ≠ pb ∧ f.blk ≠ fb := by
  obtain ⟨es, c, e1⟩ := H.pk.blk
  obtain ⟨es2, c2, e2⟩ := H.fl.blk
  refine ⟨fun e => ?_, fun e => ?_, fun e => ?_, fun e => ?_, fun e => ?_, fun f hf => ⟨fun e => ?_, fun e => ?_, fun e => ?_, fun e => ?_⟩⟩
  · have := H.q0; rw [e, H.t0] at this; simp at this
  · have := H.q0; rw [e, e1] at this; simp at this
  · have := H.q0; rw [e, e2] at this; simp at this
  · have := H.t0; rw [e, e1] at this; simp at this
  · have := H.t0; rw [e, e2] at this; simp at this
  · have := H.fs f hf; rw [e, H.q0] at this; simp [fwObj] at this
  · have := H.fs f hf; rw [e, H.t0] at this; simp [fwObj] at this
  · have := H.fs f hf; rw [e, e1] at this; simp [fwObj] at this
  · have := H.fs f hf; rw [e, e2] at this; simp [fwObj] at this
end
/-- a queue, and which blocks are its own. -/
def Qu (S : Nat → Prop) (W : World) (q : Nat) (F : List Fw) (M : List It) (T : Int) (X : Int → Int × Int) : Prop := ∃ tb h pb fb R np, QuA tb h pb fb R W q F M T np X ∧ ∀ k, S k ↔ QS tb pb fb R q F k
section
variable {S : Nat → Prop} {W W' : World} {q : Nat} {F : List Fw} {M : List It} {T : Int} {X : Int → Int × Int}
theorem Qu.lt (H : Qu S W q F M T X) {k : Nat} (hk : S k) : k < W.heap.size := by
  obtain ⟨tb, h, pb, fb, R, np, HA, hS⟩ := H
  exact HA.lt ((hS k).1 hk)
theorem Qu.keep (H : Qu S W q F M T X) (hb : ∀ k, S k → W'.heap[k]? = W.heap[k]?) : Qu S W' q F M T X := by
  obtain ⟨tb, h, pb, fb, R, np, HA, hS⟩ := H
  exact ⟨tb, h, pb, fb, R, np, HA.keep (fun k hk => hb k ((hS k).2 hk)), hS⟩
theorem Qu.below (H : Qu S W q F M T X) (hb : Below W.heap.size W W') : Qu S W' q F M T X := H.keep (fun k hk => hb.block k (H.lt hk))
theorem Qu.sav (H : Qu S W q F M T X) {S' : Nat → Prop} (hs : Sav S' W W') (hn : ∀ k, S k → ¬ S' k) : Qu S W' q F M T X := H.keep (fun k hk => hs.block k (H.lt hk) (hn k hk))
end
end Go.Proofs.Ytgeankdimknmiaa.Hp

/- Clocks: small calls; a new queue; a flow more. -/
namespace Go.Proofs.Ytgeankdimknmiaa.Hp
set_option linter.unusedVariables false
open Go.RowKit Go.Maps Go.Sort Go.Proofs.Ytgeankdimknmiaa.Tp
theorem scope_fwd {P : Program} {a : Act} {w : World} {Q : Exit → Act → World → Prop} {c rest : Code} (l : Nat) (J : Act → World → Prop) (hf : findLabel c l = some rest)
    (first : c.wp P (Exit.jump l J Q) a w) (pass : ∀ a w, J a w → rest.wp P (Exit.noGoto Q) a w) : (Code.scope c).wp P Q a w :=
  wp_scope_jumps l J (fun _ _ => 0) hf first fun a w h => wp_mono (pass a w h) fun e a w hq => by
    cases e <;> first | exact hq | exact hq.elim
theorem vNone_nil (w : World) : Calls Try.prog 15 #[.pointer none] w fun e w' => e = .returned (.bool true) ∧ w = w' := by
  go_enter Try.func15, Try.ntmps15
  go_wp2_with fail
  go_ret
  exact ⟨rfl, rfl⟩
theorem vNone_zero {q : Nat} {w : World} (hz : w.cell? ⟨q, 0, none⟩ = some (.pointer none)) : Calls Try.prog 15 #[.pointer (some ⟨q, 0, none⟩)] w fun e w' => e = .returned (.bool true) ∧ w = w' := by
  go_enter Try.func15, Try.ntmps15
  go_wp2_with fail
  go_ret
  exact ⟨rfl, rfl⟩
theorem vNone_yes {q tb : Nat} {w : World} (hz : w.cell? ⟨q, 0, none⟩ = some (.pointer (some ⟨tb, 0, none⟩))) : Calls Try.prog 15 #[.pointer (some ⟨q, 0, none⟩)] w fun e w' => e = .returned (.bool false) ∧ w = w' := by
  go_enter Try.func15, Try.ntmps15
  go_wp2_with fail
  go_ret
  exact ⟨by simp, rfl⟩
def flowB (f r m : Int) : Bool := decide ((0 ≤ f ∧ f ≤ 2147483647) ∧ (1 ≤ r ∧ r ≤ 1000000) ∧ (0 ≤ m ∧ m ≤ 1000000000))
def tickB (n : Int) : Bool := decide (0 ≤ n ∧ n ≤ 2147483647)
def packB (i f z : Int) : Bool := decide ((0 ≤ i ∧ i ≤ 4611686018427387904) ∧ (0 ≤ f ∧ f ≤ 2147483647) ∧ (1 ≤ z ∧ z ≤ 2000))
theorem checkFlow_ok {f r m : Int} (h : flowB f r m = true) (w : World) : Calls Try.prog 16 #[.int .i64 f, .int .i64 r, .int .i64 m] w fun e w' => e = .returned (.int .i64 0) ∧ w = w' := by
  obtain ⟨⟨h0, h1⟩, ⟨h2, h3⟩, h4, h5⟩ := of_decide_eq_true h
  have a0 : ¬ f < 0 := by omega
  have a1 : ¬ 2147483647 < f := by omega
  have a2 : ¬ r < 1 := by omega
  have a3 : ¬ 1000000 < r := by omega
  have a4 : ¬ m < 0 := by omega
  have a5 : ¬ 1000000000 < m := by omega
  clear h h0 h1 h2 h3 h4 h5
  go_enter Try.func16, Try.ntmps16
  go_wp2_with fail
  refine scope_fwd 0 (fun _ _ => False) rfl ?_ (fun _ _ h => h.elim)
  go_wp2_with fail
  simp only [Exit.jump]
  go_ret
  exact ⟨rfl, rfl⟩
theorem isTick_any (n : Int) (w : World) : Calls Try.prog 17 #[.int .i64 n] w fun e w' => e = .returned (.bool (tickB n)) ∧ w = w' := by
  unfold tickB
  by_cases h0 : 0 ≤ n
  · go_enter Try.func17, Try.ntmps17
    go_wp2_with fail
    go_ret
    exact ⟨by simp [h0], rfl⟩
  · have e : decide (0 ≤ n ∧ n ≤ 2147483647) = false := decide_eq_false (by omega)
    rw [e]
    clear e
    go_enter Try.func17, Try.ntmps17
    go_wp2_with fail
    go_ret
    exact ⟨rfl, rfl⟩
theorem whole_any (n : Int) (w : World) : Calls Try.prog 18 #[.int .i64 n] w fun e w' => e = .returned (.agg #[.int .i64 n, .int .i64 1]) ∧ Below w.heap.size w w' := by
  go_enter Try.func18, Try.ntmps18
  go_wp2_with fail
  refine bodyPost_ret (v := .agg #[.int .i64 n, .int .i64 1]) (by simp [results, Try.results18, go_sem]) rfl ?_
  exact ⟨rfl, by (repeat' (first | (with_reducible exact Below.refl _ _) | (with_reducible assumption) | (with_reducible apply Below.setCell) | (with_reducible apply Below.alloc) | (with_reducible apply Below.drew) | (with_reducible apply below_drewN) | (with_reducible refine Below.trans ?_ (Below.mono (by assumption) ?_)) | omega | (simp; done) | (simp; omega)))⟩
theorem checkPkt_ok {i f z : Int} (h : packB i f z = true) (w : World) : Calls Try.prog 19 #[.agg #[.int .i64 i, .int .i64 f, .int .i64 z]] w fun e w' => e = .returned (.int .i64 0) ∧ Below w.heap.size w w' := by
  obtain ⟨⟨h0, h1⟩, ⟨h2, h3⟩, h4, h5⟩ := of_decide_eq_true h
  have a0 : ¬ i < 0 := by omega
  have a1 : ¬ 4611686018427387904 < i := by omega
  have a2 : ¬ f < 0 := by omega
  have a3 : ¬ 2147483647 < f := by omega
  have a4 : ¬ z < 1 := by omega
  have a5 : ¬ 2000 < z := by omega
  clear h h0 h1 h2 h3 h4 h5
  go_enter Try.func19, Try.ntmps19
  go_wp2_with fail
  refine scope_fwd 0 (fun _ _ => False) rfl ?_ (fun _ _ h => h.elim)
  go_wp2_with fail
  simp only [Exit.jump]
  go_ret
  exact ⟨rfl, by (repeat' (first | (with_reducible exact Below.refl _ _) | (with_reducible assumption) | (with_reducible apply Below.setCell) | (with_reducible apply Below.alloc) | (with_reducible apply Below.drew) | (with_reducible apply below_drewN) | (with_reducible refine Below.trans ?_ (Below.mono (by assumption) ?_)) | omega | (simp; done) | (simp; omega)))⟩
theorem checkPkt_no {i f z : Int} (h : packB i f z = false) (w : World) : Calls Try.prog 19 #[.agg #[.int .i64 i, .int .i64 f, .int .i64 z]] w fun e w' => e = .returned (.int .i64 2) ∧ Below w.heap.size w w' := by
  have hh := hidd (of_decide_eq_false h)
  clear h
  go_enter Try.func19, Try.ntmps19
  go_wp2_with fail
  refine scope_fwd 0 (fun a' w' => Below w.heap.size w w' ∧ ∃ (v1 v2 v3 v4 v5 v6 v7 v8 v9 v10 v11 v12 v13 v14 v15 v16 v17 v18 v19 v20 v21 v22 v23 v24 v25 v26 : Value), a' = { tmps := #[.agg #[.int .i64 i, .int .i64 f, .int .i64 z], v1, v2, v3, v4, v5, v6, v7, v8, v9, v10, v11, v12, v13, v14, v15, v16, v17, v18, v19, v20, v21, v22, v23, v24, v25, v26], defers := [] }) rfl ?_ ?_
  case refine_2 =>
    rintro a' w' ⟨hb, v1, v2, v3, v4, v5, v6, v7, v8, v9, v10, v11, v12, v13, v14, v15, v16, v17, v18, v19, v20, v21, v22, v23, v24, v25, v26, rfl⟩
    go_wp2_with fail
    (try rw [Exit.noGoto_ret])
    go_ret
    exact ⟨rfl, hb⟩
  have fin : Below w.heap.size w (w.alloc (.cells #[.int .i64 i, .int .i64 f, .int .i64 z] 31)) := by (repeat' (first | (with_reducible exact Below.refl _ _) | (with_reducible assumption) | (with_reducible apply Below.setCell) | (with_reducible apply Below.alloc) | (with_reducible apply Below.drew) | (with_reducible apply below_drewN) | (with_reducible refine Below.trans ?_ (Below.mono (by assumption) ?_)) | omega | (simp; done) | (simp; omega)))
  have FIN := hidd fin
  clear fin
  by_cases a0 : i < 0
  · go_wp2_with fail
    go_step3
    exact ⟨rfl, FIN.out, _, _, _, _, _, _, _, _, _, _, _, _, _, _, _, _, _, _, _, _, _, _, _, _, _, _, rfl⟩
  by_cases a1 : 4611686018427387904 < i
  · go_wp2_with fail
    go_step3
    exact ⟨rfl, FIN.out, _, _, _, _, _, _, _, _, _, _, _, _, _, _, _, _, _, _, _, _, _, _, _, _, _, _, rfl⟩
  by_cases a2 : f < 0
  · go_wp2_with fail
    go_step3
    exact ⟨rfl, FIN.out, _, _, _, _, _, _, _, _, _, _, _, _, _, _, _, _, _, _, _, _, _, _, _, _, _, _, rfl⟩
  by_cases a3 : 2147483647 < f
  · go_wp2_with fail
    go_step3
    exact ⟨rfl, FIN.out, _, _, _, _, _, _, _, _, _, _, _, _, _, _, _, _, _, _, _, _, _, _, _, _, _, _, rfl⟩
  by_cases a4 : z < 1
  · go_wp2_with fail
    go_step3
    exact ⟨rfl, FIN.out, _, _, _, _, _, _, _, _, _, _, _, _, _, _, _, _, _, _, _, _, _, _, _, _, _, _, rfl⟩
  have a5 : 2000 < z := by have := hh.out; omega
  go_wp2_with fail
  go_step3
  exact ⟨rfl, FIN.out, _, _, _, _, _, _, _, _, _, _, _, _, _, _, _, _, _, _, _, _, _, _, _, _, _, _, rfl⟩
/-- a new queue. -/
theorem newQ (w : World) : Calls Try.prog 7 #[] w fun e w' => ∃ q S, e = .returned (.pointer (some ⟨q, 0, none⟩)) ∧ Qu S w' q [] [] 0 (fun _ => (0, 0)) ∧ (∀ k, S k → w.heap.size ≤ k) ∧ Below w.heap.size w w' := by
  have hmm := @run_makeMap Try.prog
  have cN := hidd (newR w)
  go_enter Try.func7, Try.ntmps7
  go_wp2_with fail
  refine cN.out.mono ?_
  rintro e w1 ⟨rfl, ⟨R, hR, hn⟩, hb⟩
  have HR1 := hidd hR
  have HN := hidd hn
  have HB := hidd hb
  clear hR hn hb
  generalize w.heap.size + 1 = h at *
  go_wp2_with fail
  generalize ha1 : w1.alloc (.map #[] 0) = a1 at *
  generalize ha2 : a1.alloc (.map #[] 0) = a2 at *
  have z1 : a1.heap.size = w1.heap.size + 1 := by rw [← ha1]; simp
  have z2 : a2.heap.size = w1.heap.size + 1 + 1 := by rw [← ha2]; simp [z1]
  generalize ha3 : a2.alloc (.cells #[.pointer (some ⟨h, 0, none⟩), .map (some w1.heap.size), .map (some (w1.heap.size + 1))] 57) = a3 at *
  generalize ha4 : a3.alloc (.cells #[.pointer (some ⟨w1.heap.size + 1 + 1, 0, none⟩)] 59) = a4 at *
  have z3 : a3.heap.size = w1.heap.size + 1 + 1 + 1 := by rw [← ha3]; simp [z2]
  have b01 : Below w1.heap.size w1 a1 := by rw [← ha1]; exact below_new (Below.refl _ _) _
  have b12 : Below a1.heap.size a1 a2 := by rw [← ha2]; exact below_new (Below.refl _ _) _
  have b23 : Below a2.heap.size a2 a3 := by rw [← ha3]; exact below_new (Below.refl _ _) _
  have b34 : Below a3.heap.size a3 a4 := by rw [← ha4]; exact below_new (Below.refl _ _) _
  have b24 : Below a2.heap.size a2 a4 := b23.trans (b34.mono b23.size)
  have b14 : Below a1.heap.size a1 a4 := b12.trans (b24.mono b12.size)
  have b04 : Below w1.heap.size w1 a4 := b01.trans (b14.mono b01.size)
  have hz : w.heap.size ≤ w1.heap.size := HB.out.size
  have c3 : a4.heap[a3.heap.size]? = some (.cells #[.pointer (some ⟨w1.heap.size + 1 + 1, 0, none⟩)] 59 (0, 0)) := by rw [← ha4]; exact heap_alloc_new a3 _
  have c2 : a4.heap[a2.heap.size]? = some (.cells #[.pointer (some ⟨h, 0, none⟩), .map (some w1.heap.size), .map (some (w1.heap.size + 1))] 57 (0, 0)) := (b34.block _ (by omega)).trans (by rw [← ha3]; exact heap_alloc_new a2 _)
  have p1 : PkM a1 w1.heap.size 0 (pkOf [] (fun _ => (0, 0))) := by
    have e : pkOf [] (fun _ => (0, 0)) = fun _ => none := by funext x; simp [pkOf]
    rw [e, ← ha1]
    exact PkM.new w1
  have p2 : FlM a2 a1.heap.size 0 (blkOf []) := by
    have e : blkOf [] = fun _ => none := rfl
    rw [e, ← ha2]
    exact FlM.new a1
  rw [z3] at c3
  rw [z2] at c2
  rw [z1] at p2
  refine bodyPost_ret (v := .pointer (some ⟨w1.heap.size + 1 + 1 + 1, 0, none⟩)) (by simp [results, Try.results7, go_sem]) rfl ?_
  refine ⟨_, _, rfl, ⟨_, _, _, _, R, 0, ⟨c3, c2, HR1.out.below b04, p1.to (b14.block _ (by omega)), p2.to (b24.block _ (by omega)), fun f hf => (by cases hf), fun f hf => (by cases hf), fun y hy => (by cases hy), List.nodup_nil, List.nodup_nil, by omega, ⟨fun r => ?_, fun r => ?_, fun r => ?_, fun r => ?_, fun f hf => (by cases hf)⟩, by simp⟩, fun k => Iff.rfl⟩, fun k hk => ?_, HB.out.trans (b04.mono hz)⟩
  · have := HR1.out.lt _ r; omega
  · have := HR1.out.lt _ r; omega
  · have := HR1.out.lt _ r; omega
  · have := HR1.out.lt _ r; omega
  · rcases hk with rfl | rfl | rfl | rfl | hk | ⟨f, hf, _⟩
    · omega
    · omega
    · omega
    · omega
    · exact HN.out k hk
    · cases hf
end Go.Proofs.Ytgeankdimknmiaa.Hp

/- Clocks: a flow more. -/
namespace Go.Proofs.Ytgeankdimknmiaa.Hp
set_option linter.unusedVariables false
open Go.RowKit Go.Maps Go.Sort Go.Proofs.Ytgeankdimknmiaa.Tp
/-- what a call looks at: the queue's own cells. -/
def QC (q tb h pb fb : Nat) (W : World) : Prop := W.cell? ⟨q, 0, none⟩ = some (.pointer (some ⟨tb, 0, none⟩)) ∧ W.cell? ⟨tb, 0, none⟩ = some (.pointer (some ⟨h, 0, none⟩)) ∧ W.cell? ⟨tb, 1, none⟩ = some (.map (some pb)) ∧ W.cell? ⟨tb, 2, none⟩ = some (.map (some fb))
theorem QC.of {q tb h pb fb : Nat} {W : World} (h1 : W.heap[q]? = some (.cells #[.pointer (some ⟨tb, 0, none⟩)] 59 (0, 0))) (h2 : W.heap[tb]? = some (.cells #[.pointer (some ⟨h, 0, none⟩), .map (some pb), .map (some fb)] 57 (0, 0))) : QC q tb h pb fb W := by
  refine ⟨?_, ?_, ?_, ?_⟩
  · simp [World.cell?, h1]
  · simp [World.cell?, h2]
  · simp [World.cell?, h2]
  · simp [World.cell?, h2]
section
variable {tb h pb fb : Nat} {R : Nat → Prop} {w W W' : World} {q : Nat} {F : List Fw} {M : List It} {T : Int} {np : Nat} {X : Int → Int × Int}
theorem QuA.qc (H : QuA tb h pb fb R W q F M T np X) : QC q tb h pb fb W := QC.of H.q0 H.t0
theorem QuA.addF (H : QuA tb h pb fb R w q F M T np X) {w2 w3 : World} (hb : Below w.heap.size w w2) {f : Fw} (hf : f.blk = w2.heap.size) (hid : ∀ g ∈ F, g.id ≠ f.id) (h1 : ClkB f.c f.rate) (h2 : 0 ≤ f.id ∧ f.id ≤ 2147483647) (h3 : 0 ≤ f.room ∧ f.room ≤ 1000000000) (h4 : f.bytes = 0)
    (hg : (w2.alloc (fwObj f)).grownBy w3 (some fb)) (hfl : FlM w3 fb (F.length + 1) (fun y => if y = f.id then some f.blk else blkOf F y)) : QuA tb h pb fb R w3 q (F ++ [f]) M T np X := by
  obtain ⟨a1, a2, a3, a4, a5, a6⟩ := H.apart
  have hs := hb.size
  have kp : ∀ k, QS tb pb fb R q F k → k ≠ fb → w3.heap[k]? = w.heap[k]? := fun k hk hn => by
    have hl := H.lt hk
    exact (hg.block k (by simp; omega) (fun e => hn (by cases e; rfl))).trans ((Below.heap_alloc _ _ _ (by omega)).trans (hb.block k hl))
  have hlt := fun k hk => H.lt (k := k) hk
  have eF := blkOf_snoc f hid
  refine ⟨(kp _ (.inl rfl) a3).trans H.q0, (kp _ (.inr (.inl rfl)) a5).trans H.t0, H.hr.keep (fun k hk => kp k (.inr (.inr (.inr (.inr (.inl hk))))) (fun e => H.nR.2.2.2.1 (e ▸ hk))), H.pk.to (kp _ (.inr (.inr (.inl rfl))) H.pf), ?_, fun g hg2 => ?_, fun g hg2 => ?_, fun y hy => ?_, ?_, ?_, H.pf, ⟨H.nR.1, H.nR.2.1, H.nR.2.2.1, H.nR.2.2.2.1, fun g hg2 r => ?_⟩, H.tn⟩
  · rw [List.length_append, ← eF]
    exact hfl
  · rcases List.mem_append.1 hg2 with hg2 | hg2
    · exact (kp _ (.inr (.inr (.inr (.inr (.inr ⟨g, hg2, rfl⟩))))) (a6 g hg2).2.2.2).trans (H.fs g hg2)
    · rw [List.mem_singleton.1 hg2, hf]
      have hfb := hlt fb (.inr (.inr (.inr (.inl rfl))))
      exact (hg.block _ (by simp) (fun e => by cases e; omega)).trans (heap_alloc_new w2 _)
  · rcases List.mem_append.1 hg2 with hg2 | hg2
    · exact H.ok g hg2
    · rw [List.mem_singleton.1 hg2]
      refine ⟨h1, h2, h3, ?_⟩
      have := H.tn
      rw [h4]
      omega
  · obtain ⟨⟨g, hg2, e⟩, r⟩ := H.it y hy
    exact ⟨⟨g, List.mem_append_left _ hg2, e⟩, r⟩
  · rw [List.map_append, List.nodup_append]
    refine ⟨H.nd, by simp, fun a ha b hb2 e => ?_⟩
    obtain ⟨g, hg2, rfl⟩ := List.mem_map.1 ha
    simp at hb2
    exact hid g hg2 (e.trans hb2)
  · rw [List.map_append, List.nodup_append]
    refine ⟨H.nb, by simp, fun a ha b hb2 e => ?_⟩
    obtain ⟨g, hg2, rfl⟩ := List.mem_map.1 ha
    simp at hb2
    have := hlt g.blk (.inr (.inr (.inr (.inr (.inr ⟨g, hg2, rfl⟩)))))
    omega
  · rcases List.mem_append.1 hg2 with hg2 | hg2
    · exact H.nR.2.2.2.2 g hg2 r
    · rw [List.mem_singleton.1 hg2, hf] at r
      have := H.hr.lt _ r
      omega
end
set_option maxRecDepth 100000 in
set_option maxHeartbeats 4000000 in
/-- a flow is added. -/
theorem addQ {S : Nat → Prop} {w : World} {q : Nat} {F : List Fw} {M : List It} {T : Int} {X : Int → Int × Int} (H : Qu S w q F M T X) {flow rate room now : Int} (h1 : flowB flow rate room = true) (h2 : tickB now = true) (h3 : ∀ f ∈ F, f.id ≠ flow) (h4 : F.length < 32) :
    Calls Try.prog 8 #[.pointer (some ⟨q, 0, none⟩), .int .i64 flow, .int .i64 rate, .int .i64 room, .int .i64 now] w fun e w' => e = .returned (.int .i64 0) ∧ ∃ S' b, Qu S' w' q (F ++ [⟨flow, rate, room, 0, now * rate, b⟩]) M T X ∧ Sav S w w' ∧ Nxt S S' w := by
  obtain ⟨tb, h, pb, fb, R, np, HA0, hS⟩ := H
  have HA := hidd HA0
  have HS := hidd hS
  obtain ⟨⟨f0, f1⟩, ⟨f2, f3⟩, f4, f5⟩ := of_decide_eq_true h1
  obtain ⟨n0, n1⟩ := of_decide_eq_true h2
  have hm0 : 0 ≤ now * rate := Int.mul_nonneg (by omega) (by omega)
  have hm1 : now * rate ≤ 2147483647 * 1000000 := Int.mul_le_mul n1 f3 (by omega) (by omega)
  have hcl : ClkB (now * rate) rate := ⟨hm0, by omega, f2, f3⟩
  have WH := hidd (fr_whole hcl n0 n1)
  have NONE := hidd (blkOf_out h3)
  have LEN := hidd (show F.length < 1000000 from by omega)
  have FIN : Hid (∀ w2 w3, Below w.heap.size w w2 → (w2.alloc (fwObj ⟨flow, rate, room, 0, now * rate, w2.heap.size⟩)).grownBy w3 (some fb) → FlM w3 fb (F.length + 1) (fun y => if y = flow then some w2.heap.size else blkOf F y) → ∃ S' b, Qu S' w3 q (F ++ [⟨flow, rate, room, 0, now * rate, b⟩]) M T X ∧ Sav S w w3 ∧ Nxt S S' w) := hidd (fun w2 w3 hb hg hfl => by
    have HB := HA.out.addF hb (f := ⟨flow, rate, room, 0, now * rate, w2.heap.size⟩) rfl h3 hcl ⟨f0, f1⟩ ⟨f4, f5⟩ rfl hg hfl
    refine ⟨_, _, ⟨tb, h, pb, fb, R, np, HB, fun k => Iff.rfl⟩, ?_, fun k hk hk2 => ?_⟩
    · refine ⟨hg.os.trans hb.os, hg.tape.trans hb.tape, hg.output.trans hb.output, by have := hg.size; have := hb.size; simp at *; omega, fun k hk hn => ?_⟩
      have := hb.size
      refine (hg.block k (by simp; omega) (fun e => ?_)).trans ((Below.heap_alloc _ _ _ (by omega)).trans (hb.block k hk))
      cases e
      exact hn ((HS.out _).2 (.inr (.inr (.inr (.inl rfl)))))
    · refine (HS.out k).2 ?_
      rcases hk2 with e | e | e | e | e | ⟨g, hg2, e⟩
      · exact .inl e
      · exact .inr (.inl e)
      · exact .inr (.inr (.inl e))
      · exact .inr (.inr (.inr (.inl e)))
      · exact .inr (.inr (.inr (.inr (.inl e))))
      · rcases List.mem_append.1 hg2 with hg2 | hg2
        · exact .inr (.inr (.inr (.inr (.inr ⟨g, hg2, e⟩))))
        · rw [List.mem_singleton.1 hg2] at e
          have := hb.size
          simp at e
          omega)
  have c1 := hidd (checkFlow_ok h1)
  have c2 := hidd (fun W => isTick_any now W)
  rw [h2] at c2
  have cW := hidd (fun W => whole_any now W)
  have cN := hidd (vNone_yes (HA0.qc).1)
  have KS : Hid (∀ Y, Below w.heap.size w Y → QC q tb h pb fb Y) := hidd (fun Y hb => (HA.out.below hb).qc)
  have KS2 : Hid (∀ w2 w3, Below w.heap.size w w2 → (w2.alloc (fwObj ⟨flow, rate, room, 0, now * rate, w2.heap.size⟩)).grownBy w3 (some fb) → QC q tb h pb fb w3) := hidd (fun w2 w3 hb hg => by
    obtain ⟨a1, a2, a3, a4, a5, a6⟩ := HA.out.apart
    have hs := hb.size
    have kp : ∀ k, QS tb pb fb R q F k → k ≠ fb → w3.heap[k]? = w.heap[k]? := fun k hk hn => by
      have hl := HA.out.lt hk
      exact (hg.block k (by simp; omega) (fun e => hn (by cases e; rfl))).trans ((Below.heap_alloc _ _ _ (by omega)).trans (hb.block k hl))
    exact QC.of ((kp _ (.inl rfl) a3).trans HA.out.q0) ((kp _ (.inr (.inl rfl)) a5).trans HA.out.t0))
  obtain ⟨x0, x1, x2, x3⟩ := HA0.qc
  have hlk : (Instr.lookup 55 (.map (some fb)) (.int .i64 flow) true).run Try.prog w = .ok (.tuple #[.pointer none, .bool false]) w := by
    have q2 := (HA0.fl.look (x := flow) (by omega) (by omega)).2
    rw [NONE.out] at q2
    exact q2
  have hln := fun ty => HA0.fl.len ty
  have z1 : ¬ (32 : Int) ≤ (F.length : Int) := by omega
  have NN := hidd (And.intro (show -9223372036854775808 ≤ flow from by omega) (show flow ≤ 9223372036854775807 from by omega))
  clear HA0 hS h1 h2 h3 h4 f0 f1 f2 f3 f4 f5 n0 n1 hm0 hm1 hcl
  obtain ⟨PO, hPO⟩ : ∃ PO : Ending → World → Prop, (fun (e : Ending) (w' : World) => e = .returned (.int .i64 0) ∧ ∃ S' b, Qu S' w' q (F ++ [⟨flow, rate, room, 0, now * rate, b⟩]) M T X ∧ Sav S w w' ∧ Nxt S S' w) = PO := ⟨_, rfl⟩
  have HPO := hidd hPO
  rw [hPO]
  clear hPO
  go_enter Try.func8, Try.ntmps8
  go_wp2_with fail
  refine cN.out.mono ?_
  rintro e w1 ⟨rfl, rfl⟩
  go_wp2_with fail
  refine (c1.out _).mono ?_
  rintro e w1 ⟨rfl, rfl⟩
  go_wp2_with fail
  refine (c2.out _).mono ?_
  rintro e w1 ⟨rfl, rfl⟩
  go_wp2_with fail
  refine wp_region_held_drew (S := (fun Y => QC q tb h pb fb Y)) (by kernel_rfl) (KS.out _ (Below.drew (Below.refl _ _))) (fun hH => ?_)
  refine wpAnyH_take (i := 0) (v := ?va0_1) (by (conv => lhs; simp only [List.getElem?_toArray, List.getElem?_cons_succ, List.getElem?_cons_zero])) (by kernel_rfl) (by kernel_rfl) (by kernel_rfl) ?hQ (Or.inl ⟨by rfl, ?hya0_1⟩) hH ?resta0_1
  case hQ => exact fun _ _ _ h => h
  case hya0_1 => (intro Y hY; obtain ⟨y0, y1, y2, y3⟩ := hY; go_simp; try (with_reducible rfl))
  try simp only [Act.put, List.setIfInBounds_toArray, List.set_cons_zero, List.set_cons_succ]
  refine wpAnyH_take (i := 1) (v := ?va1_2) (by (conv => lhs; simp only [List.getElem?_toArray, List.getElem?_cons_succ, List.getElem?_cons_zero])) (by kernel_rfl) (by kernel_rfl) (by kernel_rfl) ?hQ (Or.inl ⟨by rfl, ?hya1_2⟩) hH ?resta1_2
  case hQ => exact fun _ _ _ h => h
  case hya1_2 => (intro Y hY; obtain ⟨y0, y1, y2, y3⟩ := hY; go_simp; try (with_reducible rfl))
  try simp only [Act.put, List.setIfInBounds_toArray, List.set_cons_zero, List.set_cons_succ]
  refine wpAnyH_take (i := 2) (v := ?va2_3) (by (conv => lhs; simp only [List.getElem?_toArray, List.getElem?_cons_succ, List.getElem?_cons_zero])) (by kernel_rfl) (by kernel_rfl) (by kernel_rfl) ?hQ (Or.inl ⟨by rfl, ?hya2_3⟩) hH ?resta2_3
  case hQ => exact fun _ _ _ h => h
  case hya2_3 => (intro Y hY; obtain ⟨y0, y1, y2, y3⟩ := hY; go_simp; try (with_reducible rfl))
  try simp only [Act.put, List.setIfInBounds_toArray, List.set_cons_zero, List.set_cons_succ]
  refine wpAnyH_take (i := 3) (v := ?va3_4) (by (conv => lhs; simp only [List.getElem?_toArray, List.getElem?_cons_succ, List.getElem?_cons_zero])) (by kernel_rfl) (by kernel_rfl) (by kernel_rfl) ?hQ (Or.inl ⟨by rfl, ?hya3_4⟩) hH ?resta3_4
  case hQ => exact fun _ _ _ h => h
  case hya3_4 => (intro Y hY; obtain ⟨y0, y1, y2, y3⟩ := hY; go_simp; try (with_reducible rfl))
  try simp only [Act.put, List.setIfInBounds_toArray, List.set_cons_zero, List.set_cons_succ]
  refine wpAnyH_take (i := 4) (v := ?va4_5) (by (conv => lhs; simp only [List.getElem?_toArray, List.getElem?_cons_succ, List.getElem?_cons_zero])) (by kernel_rfl) (by kernel_rfl) (by kernel_rfl) ?hQ (Or.inl ⟨by rfl, ?hya4_5⟩) hH ?resta4_5
  case hQ => exact fun _ _ _ h => h
  case hya4_5 => (intro Y hY; obtain ⟨y0, y1, y2, y3⟩ := hY; go_simp; try (with_reducible rfl))
  try simp only [Act.put, List.setIfInBounds_toArray, List.set_cons_zero, List.set_cons_succ]
  refine wpAnyH_take (i := 5) (v := ?va5_6) (by (conv => lhs; simp only [List.getElem?_toArray, List.getElem?_cons_succ, List.getElem?_cons_zero])) (by kernel_rfl) (by kernel_rfl) (by kernel_rfl) ?hQ (Or.inl ⟨by rfl, ?hya5_6⟩) hH ?resta5_6
  case hQ => exact fun _ _ _ h => h
  case hya5_6 => (intro Y hY; obtain ⟨y0, y1, y2, y3⟩ := hY; go_simp; try (with_reducible rfl))
  try simp only [Act.put, List.setIfInBounds_toArray, List.set_cons_zero, List.set_cons_succ]
  refine wpAnyH_take (i := 6) (v := ?va6_7) (by (conv => lhs; simp only [List.getElem?_toArray, List.getElem?_cons_succ, List.getElem?_cons_zero])) (by kernel_rfl) (by kernel_rfl) (by kernel_rfl) ?hQ (Or.inl ⟨by rfl, ?hya6_7⟩) hH ?resta6_7
  case hQ => exact fun _ _ _ h => h
  case hya6_7 => (intro Y hY; obtain ⟨y0, y1, y2, y3⟩ := hY; go_simp; try (with_reducible rfl))
  try simp only [Act.put, List.setIfInBounds_toArray, List.set_cons_zero, List.set_cons_succ]
  refine wpAnyH_take (i := 7) (v := ?va7_8) (by (conv => lhs; simp only [List.getElem?_toArray, List.getElem?_cons_succ, List.getElem?_cons_zero])) (by kernel_rfl) (by kernel_rfl) (by kernel_rfl) ?hQ (Or.inl ⟨by rfl, ?hya7_8⟩) hH ?resta7_8
  case hQ => exact fun _ _ _ h => h
  case hya7_8 => (intro Y hY; obtain ⟨y0, y1, y2, y3⟩ := hY; go_simp; try (with_reducible rfl))
  try simp only [Act.put, List.setIfInBounds_toArray, List.set_cons_zero, List.set_cons_succ]
  refine wpAnyH_take (i := 8) (v := ?va8_9) (by (conv => lhs; simp only [List.getElem?_toArray, List.getElem?_cons_succ, List.getElem?_cons_zero])) (by kernel_rfl) (by kernel_rfl) (by kernel_rfl) ?hQ (Or.inl ⟨by rfl, ?hya8_9⟩) hH ?resta8_9
  case hQ => exact fun _ _ _ h => h
  case hya8_9 => (intro Y hY; obtain ⟨y0, y1, y2, y3⟩ := hY; go_simp; try (with_reducible rfl))
  try simp only [Act.put, List.setIfInBounds_toArray, List.set_cons_zero, List.set_cons_succ]
  refine wpAnyH_take (i := 9) (v := ?va9_10) (by (conv => lhs; simp only [List.getElem?_toArray, List.getElem?_cons_succ, List.getElem?_cons_zero])) (by kernel_rfl) (by kernel_rfl) (by kernel_rfl) ?hQ (Or.inl ⟨by rfl, ?hya9_10⟩) hH ?resta9_10
  case hQ => exact fun _ _ _ h => h
  case hya9_10 => (intro Y hY; obtain ⟨y0, y1, y2, y3⟩ := hY; go_simp; try (with_reducible rfl))
  try simp only [Act.put, List.setIfInBounds_toArray, List.set_cons_zero, List.set_cons_succ]
  refine wpAnyH_take (i := 10) (v := ?va10_11) (by (conv => lhs; simp only [List.getElem?_toArray, List.getElem?_cons_succ, List.getElem?_cons_zero])) (by kernel_rfl) (by kernel_rfl) (by kernel_rfl) ?hQ (Or.inl ⟨by rfl, ?hya10_11⟩) hH ?resta10_11
  case hQ => exact fun _ _ _ h => h
  case hya10_11 => (intro Y hY; obtain ⟨y0, y1, y2, y3⟩ := hY; go_simp; try (with_reducible rfl))
  try simp only [Act.put, List.setIfInBounds_toArray, List.set_cons_zero, List.set_cons_succ]
  refine wpAnyH_take (i := 11) (v := ?va11_12) (by (conv => lhs; simp only [List.getElem?_toArray, List.getElem?_cons_succ, List.getElem?_cons_zero])) (by kernel_rfl) (by kernel_rfl) (by kernel_rfl) ?hQ (Or.inl ⟨by rfl, ?hya11_12⟩) hH ?resta11_12
  case hQ => exact fun _ _ _ h => h
  case hya11_12 => (intro Y hY; obtain ⟨y0, y1, y2, y3⟩ := hY; go_simp; try (with_reducible rfl))
  try simp only [Act.put, List.setIfInBounds_toArray, List.set_cons_zero, List.set_cons_succ]
  refine wpAnyH_ready (rs := [12]) (by kernel_rfl) (by simp) ?_
  refine AllReadyH.cons (by (conv => lhs; simp only [List.getElem?_toArray, List.getElem?_cons_succ, List.getElem?_cons_zero])) (fun K hK => ?_) AllReadyH.nil
  go_simp
  go_at_call 18; refine (cW.out _).mono ?_; rintro e w2 ⟨rfl, hb2⟩
  have B2 := hidd (below_step (Below.drew (Below.refl _ _)) hb2)
  clear hb2
  refine hK.out _ _ (KS.out _ B2.out) (fun hH1 => ?_)
  clear hK hH
  try simp only [Act.put, List.setIfInBounds_toArray, List.set_cons_zero, List.set_cons_succ]
  refine wpAnyH_take (i := 13) (v := ?va13_13) (by (conv => lhs; simp only [List.getElem?_toArray, List.getElem?_cons_succ, List.getElem?_cons_zero])) (by kernel_rfl) (by kernel_rfl) (by kernel_rfl) ?hQ (Or.inl ⟨by rfl, ?hya13_13⟩) hH1 ?resta13_13
  case hQ => exact fun _ _ _ h => h
  case hya13_13 => (intro Y hY; obtain ⟨y0, y1, y2, y3⟩ := hY; go_simp; try (with_reducible rfl))
  try simp only [Act.put, List.setIfInBounds_toArray, List.set_cons_zero, List.set_cons_succ]
  refine wpAnyH_ready (rs := [14]) (by kernel_rfl) (by simp) ?_
  refine AllReadyH.cons (by (conv => lhs; simp only [List.getElem?_toArray, List.getElem?_cons_succ, List.getElem?_cons_zero])) (fun K hK => ?_) AllReadyH.nil
  go_simp
  refine hK.out _ _ (KS.out _ (below_new B2.out _)) (fun hH2 => ?_)
  clear hK hH1
  try simp only [Act.put, List.setIfInBounds_toArray, List.set_cons_zero, List.set_cons_succ]
  refine wpAnyH_ready (rs := [15]) (by kernel_rfl) (by simp) ?_
  refine AllReadyH.cons (by (conv => lhs; simp only [List.getElem?_toArray, List.getElem?_cons_succ, List.getElem?_cons_zero])) (fun K hK => ?_) AllReadyH.nil
  have FL2 := (HA.out.below (below_new B2.out (fwObj ⟨flow, rate, room, 0, now * rate, w2.heap.size⟩))).fl
  unfold fwObj at FL2
  dsimp only at FL2
  rw [WH.out.1, WH.out.2] at FL2
  obtain ⟨w3, hrun, hfl3, hg3⟩ := FL2.put NN.out.1 NN.out.2 NONE.out LEN.out w2.heap.size
  have HG3 := hidd (show (w2.alloc (fwObj ⟨flow, rate, room, 0, now * rate, w2.heap.size⟩)).grownBy w3 (some fb) from by unfold fwObj; dsimp only; rw [WH.out.1, WH.out.2]; exact hg3)
  have HFL3 := hidd hfl3
  clear hH2 FL2 hg3 hfl3
  go_simp
  refine hK.out _ _ (KS2.out w2 w3 B2.out HG3.out) (fun hH3 => ?_)
  clear hK
  try simp only [Act.put, List.setIfInBounds_toArray, List.set_cons_zero, List.set_cons_succ]
  refine wpAnyH_done (by kernel_rfl) (?_) _
  clear hH3
  have hfin : PO (.returned (.int .i64 0)) w3 := by
    rw [← HPO.out]
    exact ⟨rfl, FIN.out w2 w3 B2.out HG3.out HFL3.out⟩
  go_wp2_with fail
  first | exact hfin | (go_ret; exact hfin)
end Go.Proofs.Ytgeankdimknmiaa.Hp

/- Clocks: the stamp of a packet that comes. -/
namespace Go.Proofs.Ytgeankdimknmiaa.Hp
set_option linter.unusedVariables false
open Go.RowKit Go.Maps Go.Sort Go.Proofs.Ytgeankdimknmiaa.Tp
/-- what a stamp looks at of a flow. -/
def RF (f : Fw) (Y : World) : Prop := Y.cell? ⟨f.blk, 1, none⟩ = some (.int .i64 f.rate) ∧ Y.cell? ⟨f.blk, 4, none⟩ = some (.int .i64 (frN f.c f.rate)) ∧ Y.cell? ⟨f.blk, 5, none⟩ = some (.int .i64 (frD f.c f.rate))
theorem RF.of {f : Fw} {W : World} (h : W.heap[f.blk]? = some (fwObj f)) : RF f W := by
  unfold fwObj at h
  refine ⟨?_, ?_, ?_⟩ <;> simp [World.cell?, h]
theorem below_setRowV {B q : Nat} {w W : World} (h : Below B w W) (hq : B ≤ q) (cs : Array Value) : Below B w (W.setRow q cs) := ⟨h.os, h.tape, h.output, by rw [setRow_size]; exact h.size, fun j hj => (setRow_other W q j cs (by omega)).trans (h.block j hj)⟩
theorem liesO_two {W : World} {s : Nat} {a b c d : Int} {t : TypeId} (h : W.heap[s]? = some (.cells #[.int .i64 a, .int .i64 b, .int .i64 c, .int .i64 d] t (0, 0))) : LiesO W (some ⟨s, 0, none⟩) [(a, b), (c, d)] := fun _ => by
  refine ⟨_, rfl, (Array.getElem?_eq_some_iff.1 h).1, fun i hi => ?_⟩
  match i, hi with
  | 0, _ => exact ⟨by simp [World.cell?, h, Addr.add], by simp [World.cell?, h, Addr.add]⟩
  | 1, _ => exact ⟨by simp [World.cell?, h, Addr.add], by simp [World.cell?, h, Addr.add]⟩
set_option maxRecDepth 100000 in
set_option maxHeartbeats 8000000 in
theorem stampOf_any {f : Fw} {w : World} (hf : w.heap[f.blk]? = some (fwObj f)) {size now : Int} (hc : ClkB f.c f.rate) (h0 : 0 ≤ now) (h1 : now ≤ 2147483647) (hs0 : 1 ≤ size) (hs1 : size ≤ 2000) (hm : ClkB (max f.c (now * f.rate) + size) f.rate) :
    Calls Try.prog 21 #[.pointer (some ⟨f.blk, 0, none⟩), .int .i64 size, .int .i64 now] w fun e w' => e = .returned (.tuple #[.agg #[.int .i64 (frN (max f.c (now * f.rate) + size) f.rate), .int .i64 (frD (max f.c (now * f.rate) + size) f.rate)], .int .i64 0]) ∧ Below w.heap.size w w' := by
  have hn : ClkB (now * f.rate) f.rate := ⟨Int.mul_nonneg h0 (by have := hc.2.2.1; omega), by have := hm.2.1; omega, hc.2.2⟩
  have hsz : ClkB size f.rate := ⟨by omega, by omega, hc.2.2⟩
  have hmx : ClkB (max f.c (now * f.rate)) f.rate := ⟨by have := hc.1; omega, by have := hm.2.1; omega, hc.2.2⟩
  have hW : ∀ Y A, LiesO Y A [(frN f.c f.rate, frD f.c f.rate), (now, 1)] → Calls Try.prog 31 #[.slice A 2 2] Y fun e w' => e = .returned (.tuple #[.agg #[.int .i64 (frN (max f.c (now * f.rate)) f.rate), .int .i64 (frD (max f.c (now * f.rate)) f.rate)], .int .i64 0]) ∧ Below Y.heap.size Y w' := fun Y A hl => by
    have q := Greatest_any A [(frN f.c f.rate, frD f.c f.rate), (now, 1)] 2 (fun x hx => by
      rcases List.mem_cons.1 hx with rfl | hx
      · exact fr_bounds hc
      · rw [List.mem_singleton.1 hx]; exact ⟨by show _ ≤ now; omega, by show now ≤ _; omega, by show (-9223372036854775808 : Int) ≤ 1; omega, by show (1 : Int) ≤ 9223372036854775807; omega⟩) (by simp) (by simp) (by simp [maxLen]) Y hl
    rw [fr_greatest hc hn h0 h1] at q
    exact q
  have cG := hidd hW
  have cW := hidd (fun Y => whole_any now Y)
  have cM : Hid (∀ Y, Calls Try.prog 32 #[.int .i64 size, .int .i64 f.rate] Y fun e w' => e = .returned (.tuple #[.agg #[.int .i64 (frN size f.rate), .int .i64 (frD size f.rate)], .int .i64 0]) ∧ Below Y.heap.size Y w') := hidd (fun Y => by
    have q := make_any size f.rate (by omega) (by omega) (by have := hc.2.2; omega) (by have := hc.2.2; omega) Y
    rw [fr_make hsz] at q
    exact q)
  have b1 := fr_bounds hmx
  have b2 := fr_bounds hsz
  have cA : Hid (∀ Y, Calls Try.prog 33 #[.agg #[.int .i64 (frN (max f.c (now * f.rate)) f.rate), .int .i64 (frD (max f.c (now * f.rate)) f.rate)], .agg #[.int .i64 (frN size f.rate), .int .i64 (frD size f.rate)]] Y fun e w' => e = .returned (.tuple #[.agg #[.int .i64 (frN (max f.c (now * f.rate) + size) f.rate), .int .i64 (frD (max f.c (now * f.rate) + size) f.rate)], .int .i64 0]) ∧ Below Y.heap.size Y w') := hidd (fun Y => by
    have q := add_any (frN (max f.c (now * f.rate)) f.rate) (frD (max f.c (now * f.rate)) f.rate) (frN size f.rate) (frD size f.rate) b1.1 b1.2.1 b1.2.2.1 b1.2.2.2 b2.1 b2.2.1 b2.2.2.1 b2.2.2.2 Y
    rw [fr_plus hmx hsz hm] at q
    exact q)
  obtain ⟨W1, hW1⟩ : ∃ W1, w.alloc (.cells #[.int .i64 0, .int .i64 0] 35) = W1 := ⟨_, rfl⟩
  have HW1 := hidd hW1
  have B1 := hidd (show Below w.heap.size w W1 from by rw [← hW1]; exact below_new (Below.refl _ _) _)
  have ROW := hidd (show W1.heap[w.heap.size]? = some (.cells #[.int .i64 0, .int .i64 0] 35 (0, 0)) from by rw [← hW1]; exact heap_alloc_new w _)
  have SZ1 := hidd (show W1.heap.size = w.heap.size + 1 from by rw [← hW1]; simp)
  have HF := hidd hf
  have KS : Hid (∀ Y, Below W1.heap.size W1 Y → RF f Y) := hidd (fun Y hb => RF.of (((B1.out.trans (hb.mono B1.out.size)).block _ (Array.getElem?_eq_some_iff.1 HF.out).1).trans HF.out))
  generalize max f.c (now * f.rate) = mx at *
  clear hf hc h0 h1 hs0 hs1 hm hn hsz hmx b1 b2 hW hW1
  go_enter Try.func21, Try.ntmps21
  go_wp2_with fail
  rw [HW1.out]
  go_cut [8] (fun s8 wx => ∃ p : Nat, s8 = .pointer (some ⟨p, 0, none⟩) ∧ HasRat wx p (frN mx f.rate) (frD mx f.rate) ∧ Below W1.heap.size W1 wx ∧ True)
  case first =>
    refine wp_region_held_drew (S := (fun Y => RF f Y)) (by kernel_rfl) (KS.out _ (Below.drew (Below.refl _ _))) (fun hH => ?_)
    obtain ⟨WD, hWD⟩ : ∃ WD, W1.drew = WD := ⟨_, rfl⟩
    have BD : Below W1.heap.size W1 WD := by rw [← hWD]; exact Below.drew (Below.refl _ _)
    rw [hWD] at hH
    rw [hWD]
    clear hWD
    refine wpAnyH_take (i := 0) (v := ?vs0_1) (by (conv => lhs; simp only [List.getElem?_toArray, List.getElem?_cons_succ, List.getElem?_cons_zero])) (by kernel_rfl) (by kernel_rfl) (by kernel_rfl) ?hQ (Or.inl ⟨by rfl, ?hys0_1⟩) hH ?rests0_1
    case hQ => exact fun _ _ _ h => h
    case hys0_1 => (intro Y hY; obtain ⟨y1, y4, y5⟩ := hY; go_simp; try (with_reducible rfl))
    try simp only [Act.put, List.setIfInBounds_toArray, List.set_cons_zero, List.set_cons_succ]
    refine wpAnyH_take (i := 1) (v := ?vs1_2) (by (conv => lhs; simp only [List.getElem?_toArray, List.getElem?_cons_succ, List.getElem?_cons_zero])) (by kernel_rfl) (by kernel_rfl) (by kernel_rfl) ?hQ (Or.inl ⟨by rfl, ?hys1_2⟩) hH ?rests1_2
    case hQ => exact fun _ _ _ h => h
    case hys1_2 => (intro Y hY; obtain ⟨y1, y4, y5⟩ := hY; go_simp; try (with_reducible rfl))
    try simp only [Act.put, List.setIfInBounds_toArray, List.set_cons_zero, List.set_cons_succ]
    refine wpAnyH_take (i := 2) (v := ?vs2_3) (by (conv => lhs; simp only [List.getElem?_toArray, List.getElem?_cons_succ, List.getElem?_cons_zero])) (by kernel_rfl) (by kernel_rfl) (by kernel_rfl) ?hQ (Or.inl ⟨by rfl, ?hys2_3⟩) hH ?rests2_3
    case hQ => exact fun _ _ _ h => h
    case hys2_3 => (intro Y hY; obtain ⟨y1, y4, y5⟩ := hY; go_simp; try (with_reducible rfl))
    try simp only [Act.put, List.setIfInBounds_toArray, List.set_cons_zero, List.set_cons_succ]
    refine wpAnyH_take (i := 3) (v := ?vs3_4) (by (conv => lhs; simp only [List.getElem?_toArray, List.getElem?_cons_succ, List.getElem?_cons_zero])) (by kernel_rfl) (by kernel_rfl) (by kernel_rfl) ?hQ (Or.inl ⟨by rfl, ?hys3_4⟩) hH ?rests3_4
    case hQ => exact fun _ _ _ h => h
    case hys3_4 => (intro Y hY; obtain ⟨y1, y4, y5⟩ := hY; go_simp; try (with_reducible rfl))
    try simp only [Act.put, List.setIfInBounds_toArray, List.set_cons_zero, List.set_cons_succ]
    refine wpAnyH_take (i := 4) (v := ?vs4_5) (by (conv => lhs; simp only [List.getElem?_toArray, List.getElem?_cons_succ, List.getElem?_cons_zero])) (by kernel_rfl) (by kernel_rfl) (by kernel_rfl) ?hQ (Or.inl ⟨by rfl, ?hys4_5⟩) hH ?rests4_5
    case hQ => exact fun _ _ _ h => h
    case hys4_5 => (intro Y hY; obtain ⟨y1, y4, y5⟩ := hY; go_simp; try (with_reducible rfl))
    try simp only [Act.put, List.setIfInBounds_toArray, List.set_cons_zero, List.set_cons_succ]
    refine wpAnyH_ready (rs := [5, 11]) (by kernel_rfl) (by simp) ?_
    refine AllReadyH.cons (by (conv => lhs; simp only [List.getElem?_toArray, List.getElem?_cons_succ, List.getElem?_cons_zero])) (fun K hK => ?_) (AllReadyH.cons (by (conv => lhs; simp only [List.getElem?_toArray, List.getElem?_cons_succ, List.getElem?_cons_zero])) (fun K hK => ?_) AllReadyH.nil)
    · go_simp
      go_at_call 18; refine (cW.out _).mono ?_; rintro e w5p1 ⟨rfl, hbp1⟩
      have Bp1 : Below W1.heap.size W1 w5p1 := BD.trans (hbp1.mono BD.size)
      have hssp1 := hbp1.size
      refine hK.out _ _ (KS.out _ Bp1) (fun hHp1_5 => ?_)
      clear hK hH
      try simp only [Act.put, List.setIfInBounds_toArray, List.set_cons_zero, List.set_cons_succ]
      refine wpAnyH_ready (rs := [6, 11]) (by kernel_rfl) (by simp) ?_
      refine AllReadyH.cons (by (conv => lhs; simp only [List.getElem?_toArray, List.getElem?_cons_succ, List.getElem?_cons_zero])) (fun K hK => ?_) (AllReadyH.cons (by (conv => lhs; simp only [List.getElem?_toArray, List.getElem?_cons_succ, List.getElem?_cons_zero])) (fun K hK => ?_) AllReadyH.nil)
      · go_simp
        obtain ⟨w6p2, hw6p2⟩ : ∃ W, (w5p1.alloc (.cells #[.int .i64 (frN f.c f.rate), .int .i64 (frD f.c f.rate), .int .i64 now, .int .i64 1] 35)) = W := ⟨_, rfl⟩
        have Bp2 : Below W1.heap.size W1 w6p2 := by rw [← hw6p2]; exact (below_new Bp1 _)
        have SRp2 : w6p2.heap[w5p1.heap.size]? = some (.cells #[.int .i64 (frN f.c f.rate), .int .i64 (frD f.c f.rate), .int .i64 now, .int .i64 1] 35 (0, 0)) := by rw [← hw6p2]; exact (heap_alloc_new w5p1 _)
        rw [hw6p2]
        refine hK.out _ _ (KS.out _ Bp2) (fun hHp2_6 => ?_)
        clear hK hHp1_5
        try simp only [Act.put, List.setIfInBounds_toArray, List.set_cons_zero, List.set_cons_succ]
        refine wpAnyH_ready (rs := [7, 11]) (by kernel_rfl) (by simp) ?_
        refine AllReadyH.cons (by (conv => lhs; simp only [List.getElem?_toArray, List.getElem?_cons_succ, List.getElem?_cons_zero])) (fun K hK => ?_) (AllReadyH.cons (by (conv => lhs; simp only [List.getElem?_toArray, List.getElem?_cons_succ, List.getElem?_cons_zero])) (fun K hK => ?_) AllReadyH.nil)
        · have LOp3 : LiesO w6p2 (some ⟨w5p1.heap.size, 0, none⟩) [(frN f.c f.rate, frD f.c f.rate), (now, 1)] := liesO_two SRp2
          go_simp
          go_at_call 31; refine (cG.out _ _ LOp3).mono ?_; rintro e w7p3 ⟨rfl, hbp3⟩
          have Bp3 : Below W1.heap.size W1 w7p3 := Bp2.trans (hbp3.mono Bp2.size)
          refine hK.out _ _ (KS.out _ Bp3) (fun hHp3_7 => ?_)
          clear hK hHp2_6
          try simp only [Act.put, List.setIfInBounds_toArray, List.set_cons_zero, List.set_cons_succ]
          refine wpAnyH_take (i := 8) (v := ?vtp38_1) (by (conv => lhs; simp only [List.getElem?_toArray, List.getElem?_cons_succ, List.getElem?_cons_zero])) (by kernel_rfl) (by kernel_rfl) (by kernel_rfl) ?hQ (Or.inl ⟨by rfl, ?hytp38_1⟩) hHp3_7 ?resttp38_1
          case hQ => exact fun _ _ _ h => h
          case hytp38_1 => (intro Y hY; obtain ⟨y1, y4, y5⟩ := hY; go_simp; try (with_reducible rfl))
          try simp only [Act.put, List.setIfInBounds_toArray, List.set_cons_zero, List.set_cons_succ]
          refine wpAnyH_take (i := 9) (v := ?vtp39_2) (by (conv => lhs; simp only [List.getElem?_toArray, List.getElem?_cons_succ, List.getElem?_cons_zero])) (by kernel_rfl) (by kernel_rfl) (by kernel_rfl) ?hQ (Or.inl ⟨by rfl, ?hytp39_2⟩) hHp3_7 ?resttp39_2
          case hQ => exact fun _ _ _ h => h
          case hytp39_2 => (intro Y hY; obtain ⟨y1, y4, y5⟩ := hY; go_simp; try (with_reducible rfl))
          try simp only [Act.put, List.setIfInBounds_toArray, List.set_cons_zero, List.set_cons_succ]
          refine wpAnyH_take (i := 10) (v := ?vtp310_3) (by (conv => lhs; simp only [List.getElem?_toArray, List.getElem?_cons_succ, List.getElem?_cons_zero])) (by kernel_rfl) (by kernel_rfl) (by kernel_rfl) ?hQ (Or.inl ⟨by rfl, ?hytp310_3⟩) hHp3_7 ?resttp310_3
          case hQ => exact fun _ _ _ h => h
          case hytp310_3 => (intro Y hY; obtain ⟨y1, y4, y5⟩ := hY; go_simp; try (with_reducible rfl))
          try simp only [Act.put, List.setIfInBounds_toArray, List.set_cons_zero, List.set_cons_succ]
          refine wpAnyH_ready (rs := [11]) (by kernel_rfl) (by simp) ?_
          refine AllReadyH.cons (by (conv => lhs; simp only [List.getElem?_toArray, List.getElem?_cons_succ, List.getElem?_cons_zero])) (fun K hK => ?_) AllReadyH.nil
          go_simp
          obtain ⟨w8p4, hw8p4⟩ : ∃ W, (w7p3.alloc (.cells #[.int .i64 0, .int .i64 0] 35)) = W := ⟨_, rfl⟩
          obtain ⟨Pp4, hPp4⟩ : ∃ P, w7p3.heap.size = P := ⟨_, rfl⟩
          have Bp4 : Below W1.heap.size W1 w8p4 := by rw [← hw8p4]; exact below_new Bp3 _
          have PRp4 : w8p4.heap[Pp4]? = some (.cells #[.int .i64 0, .int .i64 0] 35 (0, 0)) := by rw [← hw8p4, ← hPp4]; exact heap_alloc_new w7p3 _
          have hsP : W1.heap.size ≤ Pp4 := by rw [← hPp4]; exact Bp3.size
          rw [hw8p4, hPp4]
          refine hK.out _ _ (KS.out _ Bp4) (fun hHp4_11 => ?_)
          clear hK hHp3_7
          try simp only [Act.put, List.setIfInBounds_toArray, List.set_cons_zero, List.set_cons_succ]
          refine wpAnyH_ready (rs := [12]) (by kernel_rfl) (by simp) ?_
          refine AllReadyH.cons (by (conv => lhs; simp only [List.getElem?_toArray, List.getElem?_cons_succ, List.getElem?_cons_zero])) (fun K hK => ?_) AllReadyH.nil
          rw [if_pos (by rfl)]
          have hrow := PRp4
          refine wp_store_row 35 (.tmp 8) (.tmp 21) (by rfl) Pp4 #[.int .i64 (frN mx f.rate), .int .i64 (frD mx f.rate)] (by rfl) (by rfl) _ _ hrow (by kernel_rfl) (by rfl) (by simp [Value.oneCell']) ?_
          have hrow2 := setRow_heap w8p4 Pp4 _ #[.int .i64 (frN mx f.rate), .int .i64 (frD mx f.rate)] _ _ hrow
          have bz : Below W1.heap.size W1 (w8p4.setRow Pp4 #[.int .i64 (frN mx f.rate), .int .i64 (frD mx f.rate)]) := below_setRowV Bp4 (by have := hsP; omega) _
          have hpl : Pp4 < (w8p4.setRow Pp4 #[.int .i64 (frN mx f.rate), .int .i64 (frD mx f.rate)]).heap.size := (Array.getElem?_eq_some_iff.1 hrow2).1
          refine hK.out _ _ (KS.out _ bz) (fun hHz => ?_)
          clear hK
          try simp only [Act.put]
          refine wpAnyH_take (i := 13) (v := ?vp513_1) (by (conv => lhs; simp only [List.getElem?_toArray, List.getElem?_cons_succ, List.getElem?_cons_zero])) (by kernel_rfl) (by kernel_rfl) (by kernel_rfl) ?hQ (Or.inl ⟨by rfl, ?hyp513_1⟩) hHz ?restp513_1
          case hQ => exact fun _ _ _ h => h
          case hyp513_1 => (intro Y hY; obtain ⟨y1, y4, y5⟩ := hY; go_simp; try (with_reducible rfl))
          try simp only [Act.put, List.setIfInBounds_toArray, List.set_cons_zero, List.set_cons_succ]
          refine wpAnyH_done (by kernel_rfl) (?_) _
          clear hHz
          go_wp2_with fail
          go_meet
          exact ⟨Pp4, rfl, ⟨by simp [World.cell?, hrow2], by simp [World.cell?, hrow2], hpl⟩, bz, trivial⟩
        · go_simp
          obtain ⟨w8p3, hw8p3⟩ : ∃ W, (w6p2.alloc (.cells #[.int .i64 0, .int .i64 0] 35)) = W := ⟨_, rfl⟩
          obtain ⟨Pp3, hPp3⟩ : ∃ P, w6p2.heap.size = P := ⟨_, rfl⟩
          have Bp3 : Below W1.heap.size W1 w8p3 := by rw [← hw8p3]; exact below_new Bp2 _
          have PRp3 : w8p3.heap[Pp3]? = some (.cells #[.int .i64 0, .int .i64 0] 35 (0, 0)) := by rw [← hw8p3, ← hPp3]; exact heap_alloc_new w6p2 _
          have hsP : W1.heap.size ≤ Pp3 := by rw [← hPp3]; exact Bp2.size
          have SRp3 : w8p3.heap[w5p1.heap.size]? = some (.cells #[.int .i64 (frN f.c f.rate), .int .i64 (frD f.c f.rate), .int .i64 now, .int .i64 1] 35 (0, 0)) := by rw [← hw8p3]; exact (Below.heap_alloc _ _ _ (Array.getElem?_eq_some_iff.1 (SRp2)).1).trans (SRp2)
          rw [hw8p3, hPp3]
          refine hK.out _ _ (KS.out _ Bp3) (fun hHp3_11 => ?_)
          clear hK hHp2_6
          try simp only [Act.put, List.setIfInBounds_toArray, List.set_cons_zero, List.set_cons_succ]
          refine wpAnyH_ready (rs := [7]) (by kernel_rfl) (by simp) ?_
          refine AllReadyH.cons (by (conv => lhs; simp only [List.getElem?_toArray, List.getElem?_cons_succ, List.getElem?_cons_zero])) (fun K hK => ?_) AllReadyH.nil
          have LOp6 : LiesO w8p3 (some ⟨w5p1.heap.size, 0, none⟩) [(frN f.c f.rate, frD f.c f.rate), (now, 1)] := liesO_two SRp3
          go_simp
          go_at_call 31; refine (cG.out _ _ LOp6).mono ?_; rintro e w7p6 ⟨rfl, hbp6⟩
          have Bp6 : Below W1.heap.size W1 w7p6 := Bp3.trans (hbp6.mono Bp3.size)
          have PRp6 : w7p6.heap[Pp3]? = some (.cells #[.int .i64 0, .int .i64 0] 35 (0, 0)) := (hbp6.block _ (Array.getElem?_eq_some_iff.1 (PRp3)).1).trans (PRp3)
          refine hK.out _ _ (KS.out _ Bp6) (fun hHp6_7 => ?_)
          clear hK hHp3_11
          try simp only [Act.put, List.setIfInBounds_toArray, List.set_cons_zero, List.set_cons_succ]
          refine wpAnyH_take (i := 8) (v := ?vtp68_1) (by (conv => lhs; simp only [List.getElem?_toArray, List.getElem?_cons_succ, List.getElem?_cons_zero])) (by kernel_rfl) (by kernel_rfl) (by kernel_rfl) ?hQ (Or.inl ⟨by rfl, ?hytp68_1⟩) hHp6_7 ?resttp68_1
          case hQ => exact fun _ _ _ h => h
          case hytp68_1 => (intro Y hY; obtain ⟨y1, y4, y5⟩ := hY; go_simp; try (with_reducible rfl))
          try simp only [Act.put, List.setIfInBounds_toArray, List.set_cons_zero, List.set_cons_succ]
          refine wpAnyH_take (i := 9) (v := ?vtp69_2) (by (conv => lhs; simp only [List.getElem?_toArray, List.getElem?_cons_succ, List.getElem?_cons_zero])) (by kernel_rfl) (by kernel_rfl) (by kernel_rfl) ?hQ (Or.inl ⟨by rfl, ?hytp69_2⟩) hHp6_7 ?resttp69_2
          case hQ => exact fun _ _ _ h => h
          case hytp69_2 => (intro Y hY; obtain ⟨y1, y4, y5⟩ := hY; go_simp; try (with_reducible rfl))
          try simp only [Act.put, List.setIfInBounds_toArray, List.set_cons_zero, List.set_cons_succ]
          refine wpAnyH_take (i := 10) (v := ?vtp610_3) (by (conv => lhs; simp only [List.getElem?_toArray, List.getElem?_cons_succ, List.getElem?_cons_zero])) (by kernel_rfl) (by kernel_rfl) (by kernel_rfl) ?hQ (Or.inl ⟨by rfl, ?hytp610_3⟩) hHp6_7 ?resttp610_3
          case hQ => exact fun _ _ _ h => h
          case hytp610_3 => (intro Y hY; obtain ⟨y1, y4, y5⟩ := hY; go_simp; try (with_reducible rfl))
          try simp only [Act.put, List.setIfInBounds_toArray, List.set_cons_zero, List.set_cons_succ]
          refine wpAnyH_ready (rs := [12]) (by kernel_rfl) (by simp) ?_
          refine AllReadyH.cons (by (conv => lhs; simp only [List.getElem?_toArray, List.getElem?_cons_succ, List.getElem?_cons_zero])) (fun K hK => ?_) AllReadyH.nil
          rw [if_pos (by rfl)]
          have hrow := PRp6
          refine wp_store_row 35 (.tmp 8) (.tmp 21) (by rfl) Pp3 #[.int .i64 (frN mx f.rate), .int .i64 (frD mx f.rate)] (by rfl) (by rfl) _ _ hrow (by kernel_rfl) (by rfl) (by simp [Value.oneCell']) ?_
          have hrow2 := setRow_heap w7p6 Pp3 _ #[.int .i64 (frN mx f.rate), .int .i64 (frD mx f.rate)] _ _ hrow
          have bz : Below W1.heap.size W1 (w7p6.setRow Pp3 #[.int .i64 (frN mx f.rate), .int .i64 (frD mx f.rate)]) := below_setRowV Bp6 (by have := hsP; omega) _
          have hpl : Pp3 < (w7p6.setRow Pp3 #[.int .i64 (frN mx f.rate), .int .i64 (frD mx f.rate)]).heap.size := (Array.getElem?_eq_some_iff.1 hrow2).1
          refine hK.out _ _ (KS.out _ bz) (fun hHz => ?_)
          clear hK
          try simp only [Act.put]
          refine wpAnyH_take (i := 13) (v := ?vp713_1) (by (conv => lhs; simp only [List.getElem?_toArray, List.getElem?_cons_succ, List.getElem?_cons_zero])) (by kernel_rfl) (by kernel_rfl) (by kernel_rfl) ?hQ (Or.inl ⟨by rfl, ?hyp713_1⟩) hHz ?restp713_1
          case hQ => exact fun _ _ _ h => h
          case hyp713_1 => (intro Y hY; obtain ⟨y1, y4, y5⟩ := hY; go_simp; try (with_reducible rfl))
          try simp only [Act.put, List.setIfInBounds_toArray, List.set_cons_zero, List.set_cons_succ]
          refine wpAnyH_done (by kernel_rfl) (?_) _
          clear hHz
          go_wp2_with fail
          go_meet
          exact ⟨Pp3, rfl, ⟨by simp [World.cell?, hrow2], by simp [World.cell?, hrow2], hpl⟩, bz, trivial⟩
      · go_simp
        obtain ⟨w8p2, hw8p2⟩ : ∃ W, (w5p1.alloc (.cells #[.int .i64 0, .int .i64 0] 35)) = W := ⟨_, rfl⟩
        obtain ⟨Pp2, hPp2⟩ : ∃ P, w5p1.heap.size = P := ⟨_, rfl⟩
        have Bp2 : Below W1.heap.size W1 w8p2 := by rw [← hw8p2]; exact below_new Bp1 _
        have PRp2 : w8p2.heap[Pp2]? = some (.cells #[.int .i64 0, .int .i64 0] 35 (0, 0)) := by rw [← hw8p2, ← hPp2]; exact heap_alloc_new w5p1 _
        have hsP : W1.heap.size ≤ Pp2 := by rw [← hPp2]; exact Bp1.size
        rw [hw8p2, hPp2]
        refine hK.out _ _ (KS.out _ Bp2) (fun hHp2_11 => ?_)
        clear hK hHp1_5
        try simp only [Act.put, List.setIfInBounds_toArray, List.set_cons_zero, List.set_cons_succ]
        refine wpAnyH_ready (rs := [6]) (by kernel_rfl) (by simp) ?_
        refine AllReadyH.cons (by (conv => lhs; simp only [List.getElem?_toArray, List.getElem?_cons_succ, List.getElem?_cons_zero])) (fun K hK => ?_) AllReadyH.nil
        go_simp
        obtain ⟨w6p8, hw6p8⟩ : ∃ W, (w8p2.alloc (.cells #[.int .i64 (frN f.c f.rate), .int .i64 (frD f.c f.rate), .int .i64 now, .int .i64 1] 35)) = W := ⟨_, rfl⟩
        have Bp8 : Below W1.heap.size W1 w6p8 := by rw [← hw6p8]; exact (below_new Bp2 _)
        have SRp8 : w6p8.heap[w8p2.heap.size]? = some (.cells #[.int .i64 (frN f.c f.rate), .int .i64 (frD f.c f.rate), .int .i64 now, .int .i64 1] 35 (0, 0)) := by rw [← hw6p8]; exact (heap_alloc_new w8p2 _)
        have PRp8 : w6p8.heap[Pp2]? = some (.cells #[.int .i64 0, .int .i64 0] 35 (0, 0)) := by rw [← hw6p8]; exact (Below.heap_alloc _ _ _ (Array.getElem?_eq_some_iff.1 (PRp2)).1).trans (PRp2)
        rw [hw6p8]
        refine hK.out _ _ (KS.out _ Bp8) (fun hHp8_6 => ?_)
        clear hK hHp2_11
        try simp only [Act.put, List.setIfInBounds_toArray, List.set_cons_zero, List.set_cons_succ]
        refine wpAnyH_ready (rs := [7]) (by kernel_rfl) (by simp) ?_
        refine AllReadyH.cons (by (conv => lhs; simp only [List.getElem?_toArray, List.getElem?_cons_succ, List.getElem?_cons_zero])) (fun K hK => ?_) AllReadyH.nil
        have LOp9 : LiesO w6p8 (some ⟨w8p2.heap.size, 0, none⟩) [(frN f.c f.rate, frD f.c f.rate), (now, 1)] := liesO_two SRp8
        go_simp
        go_at_call 31; refine (cG.out _ _ LOp9).mono ?_; rintro e w7p9 ⟨rfl, hbp9⟩
        have Bp9 : Below W1.heap.size W1 w7p9 := Bp8.trans (hbp9.mono Bp8.size)
        have PRp9 : w7p9.heap[Pp2]? = some (.cells #[.int .i64 0, .int .i64 0] 35 (0, 0)) := (hbp9.block _ (Array.getElem?_eq_some_iff.1 (PRp8)).1).trans (PRp8)
        refine hK.out _ _ (KS.out _ Bp9) (fun hHp9_7 => ?_)
        clear hK hHp8_6
        try simp only [Act.put, List.setIfInBounds_toArray, List.set_cons_zero, List.set_cons_succ]
        refine wpAnyH_take (i := 8) (v := ?vtp98_1) (by (conv => lhs; simp only [List.getElem?_toArray, List.getElem?_cons_succ, List.getElem?_cons_zero])) (by kernel_rfl) (by kernel_rfl) (by kernel_rfl) ?hQ (Or.inl ⟨by rfl, ?hytp98_1⟩) hHp9_7 ?resttp98_1
        case hQ => exact fun _ _ _ h => h
        case hytp98_1 => (intro Y hY; obtain ⟨y1, y4, y5⟩ := hY; go_simp; try (with_reducible rfl))
        try simp only [Act.put, List.setIfInBounds_toArray, List.set_cons_zero, List.set_cons_succ]
        refine wpAnyH_take (i := 9) (v := ?vtp99_2) (by (conv => lhs; simp only [List.getElem?_toArray, List.getElem?_cons_succ, List.getElem?_cons_zero])) (by kernel_rfl) (by kernel_rfl) (by kernel_rfl) ?hQ (Or.inl ⟨by rfl, ?hytp99_2⟩) hHp9_7 ?resttp99_2
        case hQ => exact fun _ _ _ h => h
        case hytp99_2 => (intro Y hY; obtain ⟨y1, y4, y5⟩ := hY; go_simp; try (with_reducible rfl))
        try simp only [Act.put, List.setIfInBounds_toArray, List.set_cons_zero, List.set_cons_succ]
        refine wpAnyH_take (i := 10) (v := ?vtp910_3) (by (conv => lhs; simp only [List.getElem?_toArray, List.getElem?_cons_succ, List.getElem?_cons_zero])) (by kernel_rfl) (by kernel_rfl) (by kernel_rfl) ?hQ (Or.inl ⟨by rfl, ?hytp910_3⟩) hHp9_7 ?resttp910_3
        case hQ => exact fun _ _ _ h => h
        case hytp910_3 => (intro Y hY; obtain ⟨y1, y4, y5⟩ := hY; go_simp; try (with_reducible rfl))
        try simp only [Act.put, List.setIfInBounds_toArray, List.set_cons_zero, List.set_cons_succ]
        refine wpAnyH_ready (rs := [12]) (by kernel_rfl) (by simp) ?_
        refine AllReadyH.cons (by (conv => lhs; simp only [List.getElem?_toArray, List.getElem?_cons_succ, List.getElem?_cons_zero])) (fun K hK => ?_) AllReadyH.nil
        rw [if_pos (by rfl)]
        have hrow := PRp9
        refine wp_store_row 35 (.tmp 8) (.tmp 21) (by rfl) Pp2 #[.int .i64 (frN mx f.rate), .int .i64 (frD mx f.rate)] (by rfl) (by rfl) _ _ hrow (by kernel_rfl) (by rfl) (by simp [Value.oneCell']) ?_
        have hrow2 := setRow_heap w7p9 Pp2 _ #[.int .i64 (frN mx f.rate), .int .i64 (frD mx f.rate)] _ _ hrow
        have bz : Below W1.heap.size W1 (w7p9.setRow Pp2 #[.int .i64 (frN mx f.rate), .int .i64 (frD mx f.rate)]) := below_setRowV Bp9 (by have := hsP; omega) _
        have hpl : Pp2 < (w7p9.setRow Pp2 #[.int .i64 (frN mx f.rate), .int .i64 (frD mx f.rate)]).heap.size := (Array.getElem?_eq_some_iff.1 hrow2).1
        refine hK.out _ _ (KS.out _ bz) (fun hHz => ?_)
        clear hK
        try simp only [Act.put]
        refine wpAnyH_take (i := 13) (v := ?vp1013_1) (by (conv => lhs; simp only [List.getElem?_toArray, List.getElem?_cons_succ, List.getElem?_cons_zero])) (by kernel_rfl) (by kernel_rfl) (by kernel_rfl) ?hQ (Or.inl ⟨by rfl, ?hyp1013_1⟩) hHz ?restp1013_1
        case hQ => exact fun _ _ _ h => h
        case hyp1013_1 => (intro Y hY; obtain ⟨y1, y4, y5⟩ := hY; go_simp; try (with_reducible rfl))
        try simp only [Act.put, List.setIfInBounds_toArray, List.set_cons_zero, List.set_cons_succ]
        refine wpAnyH_done (by kernel_rfl) (?_) _
        clear hHz
        go_wp2_with fail
        go_meet
        exact ⟨Pp2, rfl, ⟨by simp [World.cell?, hrow2], by simp [World.cell?, hrow2], hpl⟩, bz, trivial⟩
    · go_simp
      obtain ⟨w8p1, hw8p1⟩ : ∃ W, (WD.alloc (.cells #[.int .i64 0, .int .i64 0] 35)) = W := ⟨_, rfl⟩
      obtain ⟨Pp1, hPp1⟩ : ∃ P, WD.heap.size = P := ⟨_, rfl⟩
      have Bp1 : Below W1.heap.size W1 w8p1 := by rw [← hw8p1]; exact below_new BD _
      have PRp1 : w8p1.heap[Pp1]? = some (.cells #[.int .i64 0, .int .i64 0] 35 (0, 0)) := by rw [← hw8p1, ← hPp1]; exact heap_alloc_new WD _
      have hsP : W1.heap.size ≤ Pp1 := by rw [← hPp1]; exact BD.size
      rw [hw8p1, hPp1]
      refine hK.out _ _ (KS.out _ Bp1) (fun hHp1_11 => ?_)
      clear hK hH
      try simp only [Act.put, List.setIfInBounds_toArray, List.set_cons_zero, List.set_cons_succ]
      refine wpAnyH_ready (rs := [5]) (by kernel_rfl) (by simp) ?_
      refine AllReadyH.cons (by (conv => lhs; simp only [List.getElem?_toArray, List.getElem?_cons_succ, List.getElem?_cons_zero])) (fun K hK => ?_) AllReadyH.nil
      go_simp
      go_at_call 18; refine (cW.out _).mono ?_; rintro e w5p11 ⟨rfl, hbp11⟩
      have Bp11 : Below W1.heap.size W1 w5p11 := Bp1.trans (hbp11.mono Bp1.size)
      have hssp11 := hbp11.size
      have PRp11 : w5p11.heap[Pp1]? = some (.cells #[.int .i64 0, .int .i64 0] 35 (0, 0)) := (hbp11.block _ (Array.getElem?_eq_some_iff.1 (PRp1)).1).trans (PRp1)
      refine hK.out _ _ (KS.out _ Bp11) (fun hHp11_5 => ?_)
      clear hK hHp1_11
      try simp only [Act.put, List.setIfInBounds_toArray, List.set_cons_zero, List.set_cons_succ]
      refine wpAnyH_ready (rs := [6]) (by kernel_rfl) (by simp) ?_
      refine AllReadyH.cons (by (conv => lhs; simp only [List.getElem?_toArray, List.getElem?_cons_succ, List.getElem?_cons_zero])) (fun K hK => ?_) AllReadyH.nil
      go_simp
      obtain ⟨w6p12, hw6p12⟩ : ∃ W, (w5p11.alloc (.cells #[.int .i64 (frN f.c f.rate), .int .i64 (frD f.c f.rate), .int .i64 now, .int .i64 1] 35)) = W := ⟨_, rfl⟩
      have Bp12 : Below W1.heap.size W1 w6p12 := by rw [← hw6p12]; exact (below_new Bp11 _)
      have SRp12 : w6p12.heap[w5p11.heap.size]? = some (.cells #[.int .i64 (frN f.c f.rate), .int .i64 (frD f.c f.rate), .int .i64 now, .int .i64 1] 35 (0, 0)) := by rw [← hw6p12]; exact (heap_alloc_new w5p11 _)
      have PRp12 : w6p12.heap[Pp1]? = some (.cells #[.int .i64 0, .int .i64 0] 35 (0, 0)) := by rw [← hw6p12]; exact (Below.heap_alloc _ _ _ (Array.getElem?_eq_some_iff.1 (PRp11)).1).trans (PRp11)
      rw [hw6p12]
      refine hK.out _ _ (KS.out _ Bp12) (fun hHp12_6 => ?_)
      clear hK hHp11_5
      try simp only [Act.put, List.setIfInBounds_toArray, List.set_cons_zero, List.set_cons_succ]
      refine wpAnyH_ready (rs := [7]) (by kernel_rfl) (by simp) ?_
      refine AllReadyH.cons (by (conv => lhs; simp only [List.getElem?_toArray, List.getElem?_cons_succ, List.getElem?_cons_zero])) (fun K hK => ?_) AllReadyH.nil
      have LOp13 : LiesO w6p12 (some ⟨w5p11.heap.size, 0, none⟩) [(frN f.c f.rate, frD f.c f.rate), (now, 1)] := liesO_two SRp12
      go_simp
      go_at_call 31; refine (cG.out _ _ LOp13).mono ?_; rintro e w7p13 ⟨rfl, hbp13⟩
      have Bp13 : Below W1.heap.size W1 w7p13 := Bp12.trans (hbp13.mono Bp12.size)
      have PRp13 : w7p13.heap[Pp1]? = some (.cells #[.int .i64 0, .int .i64 0] 35 (0, 0)) := (hbp13.block _ (Array.getElem?_eq_some_iff.1 (PRp12)).1).trans (PRp12)
      refine hK.out _ _ (KS.out _ Bp13) (fun hHp13_7 => ?_)
      clear hK hHp12_6
      try simp only [Act.put, List.setIfInBounds_toArray, List.set_cons_zero, List.set_cons_succ]
      refine wpAnyH_take (i := 8) (v := ?vtp138_1) (by (conv => lhs; simp only [List.getElem?_toArray, List.getElem?_cons_succ, List.getElem?_cons_zero])) (by kernel_rfl) (by kernel_rfl) (by kernel_rfl) ?hQ (Or.inl ⟨by rfl, ?hytp138_1⟩) hHp13_7 ?resttp138_1
      case hQ => exact fun _ _ _ h => h
      case hytp138_1 => (intro Y hY; obtain ⟨y1, y4, y5⟩ := hY; go_simp; try (with_reducible rfl))
      try simp only [Act.put, List.setIfInBounds_toArray, List.set_cons_zero, List.set_cons_succ]
      refine wpAnyH_take (i := 9) (v := ?vtp139_2) (by (conv => lhs; simp only [List.getElem?_toArray, List.getElem?_cons_succ, List.getElem?_cons_zero])) (by kernel_rfl) (by kernel_rfl) (by kernel_rfl) ?hQ (Or.inl ⟨by rfl, ?hytp139_2⟩) hHp13_7 ?resttp139_2
      case hQ => exact fun _ _ _ h => h
      case hytp139_2 => (intro Y hY; obtain ⟨y1, y4, y5⟩ := hY; go_simp; try (with_reducible rfl))
      try simp only [Act.put, List.setIfInBounds_toArray, List.set_cons_zero, List.set_cons_succ]
      refine wpAnyH_take (i := 10) (v := ?vtp1310_3) (by (conv => lhs; simp only [List.getElem?_toArray, List.getElem?_cons_succ, List.getElem?_cons_zero])) (by kernel_rfl) (by kernel_rfl) (by kernel_rfl) ?hQ (Or.inl ⟨by rfl, ?hytp1310_3⟩) hHp13_7 ?resttp1310_3
      case hQ => exact fun _ _ _ h => h
      case hytp1310_3 => (intro Y hY; obtain ⟨y1, y4, y5⟩ := hY; go_simp; try (with_reducible rfl))
      try simp only [Act.put, List.setIfInBounds_toArray, List.set_cons_zero, List.set_cons_succ]
      refine wpAnyH_ready (rs := [12]) (by kernel_rfl) (by simp) ?_
      refine AllReadyH.cons (by (conv => lhs; simp only [List.getElem?_toArray, List.getElem?_cons_succ, List.getElem?_cons_zero])) (fun K hK => ?_) AllReadyH.nil
      rw [if_pos (by rfl)]
      have hrow := PRp13
      refine wp_store_row 35 (.tmp 8) (.tmp 21) (by rfl) Pp1 #[.int .i64 (frN mx f.rate), .int .i64 (frD mx f.rate)] (by rfl) (by rfl) _ _ hrow (by kernel_rfl) (by rfl) (by simp [Value.oneCell']) ?_
      have hrow2 := setRow_heap w7p13 Pp1 _ #[.int .i64 (frN mx f.rate), .int .i64 (frD mx f.rate)] _ _ hrow
      have bz : Below W1.heap.size W1 (w7p13.setRow Pp1 #[.int .i64 (frN mx f.rate), .int .i64 (frD mx f.rate)]) := below_setRowV Bp13 (by have := hsP; omega) _
      have hpl : Pp1 < (w7p13.setRow Pp1 #[.int .i64 (frN mx f.rate), .int .i64 (frD mx f.rate)]).heap.size := (Array.getElem?_eq_some_iff.1 hrow2).1
      refine hK.out _ _ (KS.out _ bz) (fun hHz => ?_)
      clear hK
      try simp only [Act.put]
      refine wpAnyH_take (i := 13) (v := ?vp1413_1) (by (conv => lhs; simp only [List.getElem?_toArray, List.getElem?_cons_succ, List.getElem?_cons_zero])) (by kernel_rfl) (by kernel_rfl) (by kernel_rfl) ?hQ (Or.inl ⟨by rfl, ?hyp1413_1⟩) hHz ?restp1413_1
      case hQ => exact fun _ _ _ h => h
      case hyp1413_1 => (intro Y hY; obtain ⟨y1, y4, y5⟩ := hY; go_simp; try (with_reducible rfl))
      try simp only [Act.put, List.setIfInBounds_toArray, List.set_cons_zero, List.set_cons_succ]
      refine wpAnyH_done (by kernel_rfl) (?_) _
      clear hHz
      go_wp2_with fail
      go_meet
      exact ⟨Pp1, rfl, ⟨by simp [World.cell?, hrow2], by simp [World.cell?, hrow2], hpl⟩, bz, trivial⟩
  case rest =>
    obtain ⟨w2, rfl⟩ : ∃ w2 : World, w2 = wc := ⟨_, rfl⟩
    obtain ⟨p, rfl, hP, hb2, -⟩ := hcut
    have HP := hidd hP
    have HB2 := hidd hb2
    obtain ⟨y1, y4, y5⟩ := KS.out _ hb2
    clear hP hb2
    go_wp2_with fail
    refine (cM.out _).mono ?_
    rintro e w3 ⟨rfl, hb3⟩
    have HP3 := hidd (HP.out.step hb3)
    have HB3 := hidd (HB2.out.trans (hb3.mono HB2.out.size))
    clear hb3 y1 y4 y5
    obtain ⟨c0, c1, cp⟩ := HP3.out
    have HB4 := hidd (show Below W1.heap.size W1 (w3.alloc (.cells #[.int .i64 (frN size f.rate), .int .i64 (frD size f.rate)] 35)) from below_new HB3.out _)
    go_wp2_with fail
    refine (cA.out _).mono ?_
    rintro e w5 ⟨rfl, hb5⟩
    have HB5 := hidd (HB4.out.trans (hb5.mono HB4.out.size))
    have hr5 := (HB5.out.block w.heap.size (by have := SZ1.out; omega)).trans ROW.out
    have r0 : w5.cell? ⟨w.heap.size, 0, none⟩ = some (.int .i64 0) := by simp [World.cell?, hr5]
    have r1 : w5.cell? ⟨w.heap.size, 1, none⟩ = some (.int .i64 0) := by simp [World.cell?, hr5]
    have f0 : w5.frozen? ⟨w.heap.size, 0, none⟩ = false := by simp [World.frozen?, hr5]
    have f1 : w5.frozen? ⟨w.heap.size, 1, none⟩ = false := by simp [World.frozen?, hr5]
    have HBW := hidd (B1.out.trans (HB5.out.mono B1.out.size))
    clear hb5 hr5 c0 c1 cp
    go_wp2_with fail
    refine bodyPost_ret (v := .tuple #[.agg #[.int .i64 (frN (mx + size) f.rate), .int .i64 (frD (mx + size) f.rate)], .int .i64 0]) (by simp [results, Try.results21, go_sem, r0, r1]) rfl ?_
    exact ⟨rfl, (HBW.out.setCell (p := ⟨w.heap.size, 0, none⟩) (Nat.le_refl _) _).setCell (p := ⟨w.heap.size, 1, none⟩) (Nat.le_refl _) _⟩
end Go.Proofs.Ytgeankdimknmiaa.Hp

