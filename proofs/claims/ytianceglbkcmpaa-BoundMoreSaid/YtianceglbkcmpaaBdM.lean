/- The search by halves, held against another one; links that are faster: plain mathematics. -/
import Derived.Test.YtianceglbkcmpaaBdL
namespace Go.Proofs.Ytianceglbkcmpaa
set_option linter.unusedVariables false
open Go.RowKit

theorem search_in (does : Int → Bool) : ∀ (n : Nat) (lo hi : Int), lo ≤ hi → lo ≤ search does n lo hi ∧ search does n lo hi ≤ hi
  | 0, lo, hi, h => ⟨Int.le_refl _, h⟩
  | n + 1, lo, hi, h => by
    unfold search
    by_cases hlt : lo < hi
    · rw [if_pos hlt]
      have h1 : 0 ≤ (hi - lo) / 2 := by omega
      have h2 : (hi - lo) / 2 ≤ hi - lo - 1 := by omega
      split
      · have := search_in does n lo (lo + (hi - lo) / 2) (by omega)
        exact ⟨this.1, by omega⟩
      · have := search_in does n (lo + (hi - lo) / 2 + 1) hi (by omega)
        exact ⟨by omega, this.2⟩
    · rw [if_neg hlt]; omega
/-- what does more is found no later. -/
theorem search_less {does more : Int → Bool} (h : ∀ R, does R = true → more R = true) : ∀ (n : Nat) (lo hi : Int), lo ≤ hi → search more n lo hi ≤ search does n lo hi
  | 0, lo, hi, _ => Int.le_refl _
  | n + 1, lo, hi, hle => by
    unfold search
    by_cases hlt : lo < hi
    · rw [if_pos hlt, if_pos hlt]
      have h1 : 0 ≤ (hi - lo) / 2 := by omega
      have h2 : (hi - lo) / 2 ≤ hi - lo - 1 := by omega
      generalize (hi - lo) / 2 = q at *
      by_cases hd : does (lo + q) = true
      · rw [if_pos hd, if_pos (h _ hd)]
        exact search_less h n lo (lo + q) (by omega)
      · rw [if_neg hd]
        by_cases hm : more (lo + q) = true
        · rw [if_pos hm]
          have := (search_in more n lo (lo + q) (by omega)).2
          have := (search_in does n (lo + q + 1) hi (by omega)).1
          omega
        · rw [if_neg hm]
          exact search_less h n (lo + q + 1) hi (by omega)
    · rw [if_neg hlt, if_neg hlt]; exact Int.le_refl _
theorem upZ_mono {n d e : Int} (h0 : 0 ≤ n) (h1 : 1 ≤ d) (h2 : d ≤ e) : upZ n e ≤ upZ n d := by
  unfold upZ
  have hd : 0 < d := by omega
  have he : 0 < e := by omega
  have a := Int.emod_add_mul_ediv (-n) d
  have b := Int.emod_nonneg (-n) (show d ≠ 0 by omega)
  have hq : -n / d ≤ 0 := by have := Int.ediv_le_ediv (c := d) hd (show -n ≤ 0 by omega); simpa using this
  have : -n / d ≤ -n / e := by
    refine (Int.le_ediv_iff_mul_le he).2 ?_
    have h3 : (-n / d) * e ≤ (-n / d) * d := by
      have h4 : (-(-n / d)) * d ≤ (-(-n / d)) * e := Int.mul_le_mul_of_nonneg_left h2 (by omega)
      rw [Int.neg_mul, Int.neg_mul] at h4
      omega
    have h5 : (-n / d) * d = d * (-n / d) := Int.mul_comm _ _
    omega
  omega
/-- is the bound in time. -/
def timely (p r u m c d T R : Int) : Bool := decide (upZ (boundN p r u m R c d) (boundD p r R) ≤ T)
theorem timely_more {p r u m c d T T' R : Int} (h : T ≤ T') (g : timely p r u m c d T R = true) : timely p r u m c d T' R = true := by
  unfold timely at *
  exact decide_eq_true (Int.le_trans (of_decide_eq_true g) h)
theorem told_up {p r u m l R c d : Int} (hs : SpecIn p r u m) (hR : r ≤ R) (hR2 : R ≤ 1000000) (hc1 : 0 ≤ c) (hc2 : c ≤ 10000000) (hd1 : 0 ≤ d) (hd2 : d ≤ 1000000) :
    ∃ N D, Told p r u m l R c d N D ∧ makeR (boundN p r u m R c d) (boundD p r R) = (N, D, 0) ∧ upV N D = upZ (boundN p r u m R c d) (boundD p r R) := by
  obtain ⟨⟨t1, t2⟩, t3, t4⟩ := boundN_bd hs hR hR2 hc1 hc2 hd1 hd2
  obtain ⟨N, D, ht, hm⟩ := late_total (l := l) hs hR hR2 hc1 hc2 hd1 hd2
  obtain ⟨N', D', hm', _, _, hu⟩ := make_fits (boundN p r u m R c d) (boundD p r R) t1 (by omega) t3 (by omega)
  rw [hm] at hm'
  simp only [Prod.mk.injEq, and_true] at hm'
  obtain ⟨rfl, rfl⟩ := hm'
  exact ⟨N, D, ht, hm, hu⟩
end Go.Proofs.Ytianceglbkcmpaa
