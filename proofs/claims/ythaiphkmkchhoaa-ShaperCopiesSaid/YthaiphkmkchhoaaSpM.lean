/- Sendings: the first one with which a spec is not kept, sending by sending, as plain mathematics. -/
namespace Go.Proofs.Ythaiphkmkchhoaa
namespace SM

def tick (n : Int) : Prop := 0 ≤ n ∧ n ≤ 2147483647
/-- may this be sent behind a sending at 'now', by itself? -/
def fits (m l now a s : Int) : Prop := now ≤ a ∧ 0 ≤ a ∧ a ≤ 2147483647 ∧ l ≤ s ∧ s ≤ m
instance (m l now a s : Int) : Decidable (fits m l now a s) := by unfold fits; infer_instance
/-- what is kept of a line, one sending on. -/
def more (rate kept now a s : Int) : Int := max (kept - rate * (a - now)) 0 + s
/-- the first one with which they don't keep to it. -/
def fb (p r u m l : Int) : List (Int × Int) → Int → Int → Int → Nat → Nat
  | [], _, _, _, i => i
  | x :: t, k0, k1, now, i =>
    if fits m l now x.1 x.2 then
      if more p k0 now x.1 x.2 ≤ m then
        if more r k1 now x.1 x.2 ≤ u then fb p r u m l t (more p k0 now x.1 x.2) (more r k1 now x.1 x.2) x.1 (i + 1) else i
      else i
    else i
theorem fb_nil (p r u m l k0 k1 now : Int) (i : Nat) : fb p r u m l [] k0 k1 now i = i := rfl
theorem fb_unfit {p r u m l k0 k1 now : Int} {i : Nat} {a s : Int} {t : List (Int × Int)} (h : ¬ fits m l now a s) : fb p r u m l ((a, s) :: t) k0 k1 now i = i := by
  simp [fb, h]
theorem fb_no0 {p r u m l k0 k1 now : Int} {i : Nat} {a s : Int} {t : List (Int × Int)} (h : m < more p k0 now a s) : fb p r u m l ((a, s) :: t) k0 k1 now i = i := by
  have : ¬ more p k0 now a s ≤ m := by omega
  simp only [fb, if_neg this, ite_self]
theorem fb_no1 {p r u m l k0 k1 now : Int} {i : Nat} {a s : Int} {t : List (Int × Int)} (h : u < more r k1 now a s) : fb p r u m l ((a, s) :: t) k0 k1 now i = i := by
  have : ¬ more r k1 now a s ≤ u := by omega
  simp only [fb, if_neg this, ite_self]
theorem fb_on {p r u m l k0 k1 now : Int} {i : Nat} {a s : Int} {t : List (Int × Int)} (h : fits m l now a s) (h0 : more p k0 now a s ≤ m) (h1 : more r k1 now a s ≤ u) :
    fb p r u m l ((a, s) :: t) k0 k1 now i = fb p r u m l t (more p k0 now a s) (more r k1 now a s) a (i + 1) := by
  simp only [fb, if_pos h, if_pos h0, if_pos h1]
theorem drop_get {α : Type} (l : List α) (i : Nat) (h : i < l.length) : l.drop i = l[i] :: l.drop (i + 1) := List.drop_eq_getElem_cons h
end SM
end Go.Proofs.Ythaiphkmkchhoaa
