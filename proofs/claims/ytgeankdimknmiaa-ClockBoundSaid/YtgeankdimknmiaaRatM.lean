/- Arithmetic of fractions, and of two words by one: plain numbers, no program. -/
namespace Go.Proofs.Ytgeankdimknmiaa
namespace RM

def Right (n d : Int) : Prop :=
  1 ≤ d ∧ d ≤ 9223372036854775807 ∧ -9223372036854775807 ≤ n ∧ n ≤ 9223372036854775807 ∧ Nat.gcd n.natAbs d.natAbs = 1

def sgn (b : Bool) (n : Nat) : Int := if b then -(n : Int) else n

theorem sgn_natAbs (b : Bool) (n : Nat) : (sgn b n).natAbs = n := by
  unfold sgn; split <;> omega
theorem sgn_mul (b : Bool) (n k : Nat) : sgn b (n * k) = sgn b n * k := by
  unfold sgn; split <;> simp [Int.neg_mul]
theorem sgn_zero (b : Bool) : sgn b 0 = 0 := by unfold sgn; split <;> rfl
theorem sgn_lt (b : Bool) (n : Nat) : sgn b n < 0 ↔ b = true ∧ 0 < n := by
  unfold sgn; split <;> simp_all <;> omega
theorem sgn_self (n : Int) : sgn (decide (n < 0)) n.natAbs = n := by
  unfold sgn; split <;> simp_all <;> omega

/-- what stands there: parts without a common divisor. -/
def fracP (b : Bool) (n d : Nat) : Int × Int × Int :=
  if n < 9223372036854775808 ∧ d < 9223372036854775808 then (sgn b n, (d : Int), 0) else (0, 0, 110)

/-- any two parts. -/
def fracN (b : Bool) (n d : Nat) : Int × Int × Int :=
  if d = 0 then (0, 0, 2) else fracP b (n / Nat.gcd n d) (d / Nat.gcd n d)

theorem fracN_scale (b : Bool) (n d k : Nat) (hk : 0 < k) (hd : 0 < d) : fracN b (n * k) (d * k) = fracN b n d := by
  unfold fracN
  have h1 : ¬ d * k = 0 := by
    intro h; rcases Nat.mul_eq_zero.1 h with h | h <;> omega
  have hg : 0 < Nat.gcd n d := Nat.gcd_pos_of_pos_right _ hd
  rw [if_neg h1, if_neg (by omega), Nat.gcd_mul_right, Nat.mul_div_mul_right _ _ hk, Nat.mul_div_mul_right _ _ hk]

theorem fracN_coprime (b : Bool) (n d : Nat) (hd : 0 < d) (h : Nat.gcd n d = 1) : fracN b n d = fracP b n d := by
  unfold fracN
  rw [if_neg (by omega), h, Nat.div_one, Nat.div_one]

theorem fracN_zero (b c : Bool) (d : Nat) : fracN b 0 d = fracN c 0 d := by
  unfold fracN fracP
  simp [sgn_zero]

theorem fracN_bool (b : Bool) (n d : Nat) : fracN (b && decide (0 < n)) n d = fracN b n d := by
  by_cases h : 0 < n
  · simp [h]
  · have : n = 0 := by omega
    subst this
    exact fracN_zero _ _ _

/-- the program's sum: what both lower parts have in common is left out first. -/
theorem fracN_plus (b : Bool) (x y d e n : Nat) (hd : 0 < d) (he : 0 < e) (hx : Nat.gcd x d = 1) (hy : Nat.gcd y e = 1)
    (hn : n = x * (e / Nat.gcd d e) + y * (d / Nat.gcd d e) ∨ n + y * (d / Nat.gcd d e) = x * (e / Nat.gcd d e) ∨ n + x * (e / Nat.gcd d e) = y * (d / Nat.gcd d e)) :
    fracN b (n * Nat.gcd d e) (d * e) = fracP b (n / Nat.gcd (Nat.gcd d e) n) (d / Nat.gcd d e * (e / Nat.gcd (Nat.gcd d e) n)) := by
  have hg : 0 < Nat.gcd d e := Nat.gcd_pos_of_pos_left _ hd
  have cop : Nat.Coprime (d / Nat.gcd d e) (e / Nat.gcd d e) := Nat.coprime_div_gcd_div_gcd hg
  have ed : d = d / Nat.gcd d e * Nat.gcd d e := (Nat.div_mul_cancel (Nat.gcd_dvd_left d e)).symm
  have ee : e = e / Nat.gcd d e * Nat.gcd d e := (Nat.div_mul_cancel (Nat.gcd_dvd_right d e)).symm
  generalize hgg : Nat.gcd d e = g at *
  generalize d / g = l at *
  generalize e / g = r at *
  have hl : 0 < l := by
    rcases Nat.eq_zero_or_pos l with h | h
    · subst h; omega
    · exact h
  have hr : 0 < r := by
    rcases Nat.eq_zero_or_pos r with h | h
    · subst h; omega
    · exact h
  have hh : 0 < Nat.gcd g n := Nat.gcd_pos_of_pos_left _ hg
  -- x is coprime to l, y to r
  have cxl : Nat.Coprime x l := Nat.Coprime.coprime_dvd_right ⟨g, ed⟩ hx
  have cyr : Nat.Coprime y r := Nat.Coprime.coprime_dvd_right ⟨g, ee⟩ hy
  have cnl : Nat.Coprime n l := by
    have h1 : Nat.Coprime (x * r) l := Nat.Coprime.mul_left cxl cop.symm
    have hdv : ∀ k, k ∣ n → k ∣ l → k ∣ x * r := by
      intro k h1 h2
      have h3 : k ∣ y * l := Nat.dvd_mul_left_of_dvd h2 y
      rcases hn with h | h | h
      · rw [h] at h1; exact (Nat.dvd_add_iff_left h3).2 h1
      · rw [← h]; exact Nat.dvd_add h1 h3
      · have : k ∣ n + x * r := by rw [h]; exact h3
        exact (Nat.dvd_add_iff_right h1).2 this
    have hk : Nat.gcd n l ∣ Nat.gcd (x * r) l := Nat.dvd_gcd (hdv _ (Nat.gcd_dvd_left _ _) (Nat.gcd_dvd_right _ _)) (Nat.gcd_dvd_right _ _)
    rw [Nat.Coprime] at h1; rw [h1] at hk
    exact Nat.dvd_one.1 hk
  have cnr : Nat.Coprime n r := by
    have h1 : Nat.Coprime (y * l) r := Nat.Coprime.mul_left cyr cop
    have hdv : ∀ k, k ∣ n → k ∣ r → k ∣ y * l := by
      intro k h1 h2
      have h3 : k ∣ x * r := Nat.dvd_mul_left_of_dvd h2 x
      rcases hn with h | h | h
      · rw [h] at h1; exact (Nat.dvd_add_iff_right h3).2 h1
      · have : k ∣ n + y * l := by rw [h]; exact h3
        exact (Nat.dvd_add_iff_right h1).2 this
      · rw [← h]; exact Nat.dvd_add h1 h3
    have hk : Nat.gcd n r ∣ Nat.gcd (y * l) r := Nat.dvd_gcd (hdv _ (Nat.gcd_dvd_left _ _) (Nat.gcd_dvd_right _ _)) (Nat.gcd_dvd_right _ _)
    rw [Nat.Coprime] at h1; rw [h1] at hk
    exact Nat.dvd_one.1 hk
  have e1 : d * e = (l * e) * g := by rw [ed]; simp only [Nat.mul_comm, Nat.mul_left_comm]
  have hle : 0 < l * e := Nat.mul_pos hl he
  rw [e1, fracN_scale b n (l * e) g hg hle]
  have hhd : Nat.gcd g n ∣ e := Nat.dvd_trans (Nat.gcd_dvd_left g n) ⟨r, by rw [Nat.mul_comm]; exact ee⟩
  have e2 : l * e = (l * (e / Nat.gcd g n)) * Nat.gcd g n := by
    rw [Nat.mul_assoc, Nat.div_mul_cancel hhd]
  have e3 : n = n / Nat.gcd g n * Nat.gcd g n := (Nat.div_mul_cancel (Nat.gcd_dvd_right g n)).symm
  have hp : 0 < l * (e / Nat.gcd g n) := Nat.mul_pos hl (Nat.div_pos (Nat.le_of_dvd he hhd) hh)
  have e4 : fracN b n (l * e) = fracN b (n / Nat.gcd g n) (l * (e / Nat.gcd g n)) := by
    rw [e2]
    exact (congrArg (fun m => fracN b m (l * (e / Nat.gcd g n) * Nat.gcd g n)) e3).trans (fracN_scale b _ _ _ hh hp)
  rw [e4]
  refine fracN_coprime b _ _ hp ?_
  have hee : e / Nat.gcd g n = r * (g / Nat.gcd g n) := by
    have : e = r * g := ee
    rw [this, Nat.mul_div_assoc _ (Nat.gcd_dvd_left g n)]
  rw [hee]
  have hdn : n / Nat.gcd g n ∣ n := ⟨Nat.gcd g n, e3⟩
  have c1 : Nat.Coprime (n / Nat.gcd g n) l := Nat.Coprime.coprime_dvd_left hdn cnl
  have c2 : Nat.Coprime (n / Nat.gcd g n) r := Nat.Coprime.coprime_dvd_left hdn cnr
  have c3 : Nat.Coprime (n / Nat.gcd g n) (g / Nat.gcd g n) := (Nat.coprime_div_gcd_div_gcd hh).symm
  exact c1.mul_right (c2.mul_right c3)

/-- the program's product: what is common across is left out first. -/
theorem fracN_times (b : Bool) (x y d e : Nat) (hd : 0 < d) (he : 0 < e) (hx : Nat.gcd x d = 1) (hy : Nat.gcd y e = 1) :
    fracN b (x * y) (d * e) = fracP b (x / Nat.gcd x e * (y / Nat.gcd y d)) (d / Nat.gcd y d * (e / Nat.gcd x e)) := by
  have hg : 0 < Nat.gcd x e := Nat.gcd_pos_of_pos_right _ he
  have hh : 0 < Nat.gcd y d := Nat.gcd_pos_of_pos_right _ hd
  have cxe : Nat.Coprime (x / Nat.gcd x e) (e / Nat.gcd x e) := Nat.coprime_div_gcd_div_gcd hg
  have cyd : Nat.Coprime (y / Nat.gcd y d) (d / Nat.gcd y d) := Nat.coprime_div_gcd_div_gcd hh
  have ex : x = x / Nat.gcd x e * Nat.gcd x e := (Nat.div_mul_cancel (Nat.gcd_dvd_left x e)).symm
  have ee : e = e / Nat.gcd x e * Nat.gcd x e := (Nat.div_mul_cancel (Nat.gcd_dvd_right x e)).symm
  have ey : y = y / Nat.gcd y d * Nat.gcd y d := (Nat.div_mul_cancel (Nat.gcd_dvd_left y d)).symm
  have ed : d = d / Nat.gcd y d * Nat.gcd y d := (Nat.div_mul_cancel (Nat.gcd_dvd_right y d)).symm
  generalize hgg : Nat.gcd x e = g at *
  generalize hhh : Nat.gcd y d = h at *
  generalize x / g = x' at *
  generalize e / g = e' at *
  generalize y / h = y' at *
  generalize d / h = d' at *
  have hd' : 0 < d' := by
    rcases Nat.eq_zero_or_pos d' with q | q
    · subst q; omega
    · exact q
  have he' : 0 < e' := by
    rcases Nat.eq_zero_or_pos e' with q | q
    · subst q; omega
    · exact q
  have e1 : x * y = x' * y' * (g * h) := by rw [ex, ey]; simp only [Nat.mul_comm, Nat.mul_left_comm]
  have e2 : d * e = d' * e' * (g * h) := by rw [ed, ee]; simp only [Nat.mul_comm, Nat.mul_left_comm]
  have hp : 0 < d' * e' := Nat.mul_pos hd' he'
  rw [e1, e2, fracN_scale b _ _ _ (Nat.mul_pos hg hh) hp]
  refine fracN_coprime b _ _ hp ?_
  have cxd : Nat.Coprime x' d' := Nat.Coprime.coprime_dvd_left ⟨g, ex⟩ (Nat.Coprime.coprime_dvd_right ⟨h, ed⟩ hx)
  have cye : Nat.Coprime y' e' := Nat.Coprime.coprime_dvd_left ⟨h, ey⟩ (Nat.Coprime.coprime_dvd_right ⟨g, ee⟩ hy)
  exact Nat.Coprime.mul_left (cxd.mul_right cxe) (cyd.mul_right cye)

/-- what fracN tells, by cross products. -/
theorem fracN_ok (b : Bool) (n d : Nat) (hd : 0 < d) (N D : Int) :
    fracN b n d = (N, D, 0) ↔ Right N D ∧ N * d = sgn b n * D := by
  have hg : 0 < Nat.gcd n d := Nat.gcd_pos_of_pos_right _ hd
  have cop : Nat.Coprime (n / Nat.gcd n d) (d / Nat.gcd n d) := Nat.coprime_div_gcd_div_gcd hg
  have en : n = n / Nat.gcd n d * Nat.gcd n d := (Nat.div_mul_cancel (Nat.gcd_dvd_left n d)).symm
  have ed : d = d / Nat.gcd n d * Nat.gcd n d := (Nat.div_mul_cancel (Nat.gcd_dvd_right n d)).symm
  unfold fracN fracP
  rw [if_neg (by omega)]
  generalize Nat.gcd n d = g at *
  generalize n / g = x at *
  generalize d / g = y at *
  have hy : 0 < y := by
    rcases Nat.eq_zero_or_pos y with q | q
    · subst q; omega
    · exact q
  have key : sgn b n = sgn b x * g := by rw [en, sgn_mul]
  constructor
  · intro h
    by_cases hc : x < 9223372036854775808 ∧ y < 9223372036854775808
    · rw [if_pos hc] at h
      injection h with h1 h2
      injection h2 with h2 _
      subst h1; subst h2
      refine ⟨⟨by omega, by omega, ?_, ?_, ?_⟩, ?_⟩
      · unfold sgn; split <;> omega
      · unfold sgn; split <;> omega
      · rw [sgn_natAbs]; simpa using cop
      · rw [key, ed]; simp only [Int.natCast_mul]; rw [Int.mul_assoc, Int.mul_comm (y : Int) (g : Int)]
    · rw [if_neg hc] at h
      injection h with h1 h2
      injection h2 with h2 h3
      exact absurd h3 (by decide)
  · rintro ⟨⟨h1, h2, h3, h4, h5⟩, h6⟩
    -- N * y = sgn b x * D
    have h7 : N * (y : Int) = sgn b x * D := by
      have : N * (y : Int) * (g : Int) = sgn b x * D * (g : Int) := by
        have := h6
        rw [key, ed] at this
        simp only [Int.natCast_mul] at this
        grind
      exact Int.eq_of_mul_eq_mul_right (by omega) this
    have h8 : N.natAbs * y = x * D.natAbs := by
      have := congrArg Int.natAbs h7
      rwa [Int.natAbs_mul, Int.natAbs_mul, sgn_natAbs, Int.natAbs_natCast] at this
    have c1 : y ∣ D.natAbs := by
      have : y ∣ x * D.natAbs := ⟨N.natAbs, by rw [← h8, Nat.mul_comm]⟩
      exact cop.symm.dvd_of_dvd_mul_left this
    have c2 : D.natAbs ∣ y := by
      have : D.natAbs ∣ N.natAbs * y := ⟨x, by rw [h8, Nat.mul_comm]⟩
      exact (Nat.Coprime.symm h5).dvd_of_dvd_mul_left this
    have hyD : D.natAbs = y := Nat.dvd_antisymm c2 c1
    have hDy : D = (y : Int) := by omega
    subst hDy
    have hN : N = sgn b x := Int.eq_of_mul_eq_mul_right (by omega) h7
    subst hN
    rw [sgn_natAbs] at h5
    rw [if_pos]
    refine ⟨?_, by omega⟩
    have : x = (sgn b x).natAbs := (sgn_natAbs b x).symm
    omega

theorem fracN_err (b : Bool) (n d : Nat) (hd : 0 < d) : (∃ N D, fracN b n d = (N, D, 0)) ∨ fracN b n d = (0, 0, 110) := by
  unfold fracN fracP
  rw [if_neg (by omega)]
  split
  · exact Or.inl ⟨_, _, rfl⟩
  · exact Or.inr rfl



/-- one digit of the quotient: the estimate is never too small; it is right where the test lets it be. -/
theorem kn_lower (U v y1 y0 q r : Nat) (_h1 : y0 < 4294967296)
    (hqr : q * y1 + r = U) (ht : q * y0 ≤ 4294967296 * r + v) :
    q * (y1 * 4294967296 + y0) ≤ U * 4294967296 + v := by
  subst hqr
  rw [Nat.mul_add, Nat.add_mul, ← Nat.mul_assoc]
  omega

theorem kn_upper (U v y1 y0 q r : Nat)
    (hqr : q * y1 + r = U) (ht : 4294967296 * r + v < q * y0) :
    U * 4294967296 + v < q * (y1 * 4294967296 + y0) := by
  subst hqr
  rw [Nat.mul_add, Nat.add_mul, ← Nat.mul_assoc]
  omega

theorem kn_start (U v y1 y0 : Nat) (hy1 : 2147483648 ≤ y1) (_hy1' : y1 < 4294967296) (hy0 : y0 < 4294967296) (hv : v < 4294967296)
    (hU : U < y1 * 4294967296 + y0) :
    U / y1 ≤ 4294967297 ∧ U / y1 * y1 + (U - U / y1 * y1) = U ∧ U - U / y1 * y1 < y1 ∧
    (U * 4294967296 + v) / (y1 * 4294967296 + y0) ≤ U / y1 ∧ (U * 4294967296 + v) / (y1 * 4294967296 + y0) < 4294967296 := by
  have hm : U % y1 < y1 := Nat.mod_lt _ (by omega)
  have he := Nat.div_add_mod' U y1
  have h1 : U / y1 * y1 ≤ U := Nat.div_mul_le_self _ _
  refine ⟨?_, by omega, by omega, ?_, ?_⟩
  · have : U / y1 < 4294967298 := (Nat.div_lt_iff_lt_mul (by omega)).2 (by omega)
    omega
  · have : (U * 4294967296 + v) / (y1 * 4294967296 + y0) < U / y1 + 1 := by
      refine (Nat.div_lt_iff_lt_mul (by omega)).2 ?_
      have h2 : U < (U / y1 + 1) * y1 := by rw [Nat.add_mul]; omega
      have h3 : (U + 1) ≤ (U / y1 + 1) * y1 := h2
      have h4 : (U + 1) * 4294967296 ≤ (U / y1 + 1) * y1 * 4294967296 := Nat.mul_le_mul_right _ h3
      rw [Nat.mul_add, ← Nat.mul_assoc]
      omega
    omega
  · refine (Nat.div_lt_iff_lt_mul (by omega)).2 ?_
    omega

/-- where the walk ends: q is the quotient's digit. -/
theorem kn_end (U v y1 y0 q r : Nat) (hy : 0 < y1) (_h1 : y0 < 4294967296) (hqr : q * y1 + r = U)
    (hlo : (U * 4294967296 + v) / (y1 * 4294967296 + y0) ≤ q) (ht : q * y0 ≤ 4294967296 * r + v) :
    q = (U * 4294967296 + v) / (y1 * 4294967296 + y0) := by
  have h := kn_lower U v y1 y0 q r _h1 hqr ht
  have : q ≤ (U * 4294967296 + v) / (y1 * 4294967296 + y0) := (Nat.le_div_iff_mul_le (by omega)).2 h
  omega

theorem kn_dec (U v y1 y0 q r : Nat) (hy : 0 < y1) (hqr : q * y1 + r = U)
    (hQ : (U * 4294967296 + v) / (y1 * 4294967296 + y0) < 4294967296)
    (ht : 4294967296 ≤ q ∨ 4294967296 * r + v < q * y0) :
    (U * 4294967296 + v) / (y1 * 4294967296 + y0) ≤ q - 1 ∧ 1 ≤ q := by
  have h3 : (U * 4294967296 + v) / (y1 * 4294967296 + y0) < q := by
    rcases ht with h | h
    · exact Nat.lt_of_lt_of_le hQ h
    · exact (Nat.div_lt_iff_lt_mul (by omega)).2 (kn_upper U v y1 y0 q r hqr h)
  exact ⟨Nat.le_sub_one_of_lt h3, Nat.lt_of_le_of_lt (Nat.zero_le _) h3⟩

theorem kn_dec_eq (U y1 q r : Nat) (hq : 1 ≤ q) (hqr : q * y1 + r = U) : (q - 1) * y1 + (r + y1) = U := by
  obtain ⟨k, rfl⟩ : ∃ k, q = k + 1 := ⟨q - 1, by omega⟩
  rw [Nat.add_mul] at hqr
  simp only [Nat.add_sub_cancel]
  omega

/-- products of the test fit. -/
theorem kn_fit (q y0 : Nat) (hq : q ≤ 4294967297) (hy0 : y0 < 4294967296) : q * y0 < 18446744073709551616 := by
  have : q * y0 ≤ 4294967297 * 4294967295 := Nat.mul_le_mul hq (by omega)
  omega

/-- the break: behind it the product is small enough. -/
theorem kn_break (q y0 r v : Nat) (hq : q ≤ 4294967296) (hy0 : y0 < 4294967296) (hr : 4294967296 ≤ r) : q * y0 ≤ 4294967296 * r + v := by
  have : q * y0 ≤ 4294967296 * 4294967295 := Nat.mul_le_mul hq (by omega)
  omega

/-- the two digits together. -/
theorem kn_join (u1 a b y : Nat) (hy : 0 < y) :
    (u1 * 4294967296 + a) / y * 4294967296 + ((u1 * 4294967296 + a) % y * 4294967296 + b) / y = (u1 * 18446744073709551616 + (a * 4294967296 + b)) / y ∧
    ((u1 * 4294967296 + a) % y * 4294967296 + b) % y = (u1 * 18446744073709551616 + (a * 4294967296 + b)) % y := by
  have e : u1 * 18446744073709551616 + (a * 4294967296 + b) = ((u1 * 4294967296 + a) / y * 4294967296) * y + ((u1 * 4294967296 + a) % y * 4294967296 + b) := by
    have h := Nat.div_add_mod' (u1 * 4294967296 + a) y
    rw [Nat.mul_right_comm]
    generalize (u1 * 4294967296 + a) / y * y = p at *
    generalize (u1 * 4294967296 + a) % y = m at *
    omega
  rw [e]
  constructor
  · rw [Nat.add_comm _ (_ * 4294967296 + b), Nat.add_mul_div_right _ _ hy, Nat.add_comm]
  · rw [Nat.add_comm _ (_ * 4294967296 + b), Nat.add_mul_mod_self_right]

/-- shifting both by s leaves the quotient and shifts the rest. -/
theorem kn_shift (u y k : Nat) (hk : 0 < k) : (u * k) / (y * k) = u / y ∧ (u * k) % (y * k) / k = u % y := by
  constructor
  · exact Nat.mul_div_mul_right _ _ hk
  · rw [Nat.mul_mod_mul_right, Nat.mul_div_cancel _ hk]

end RM
end Go.Proofs.Ytgeankdimknmiaa
