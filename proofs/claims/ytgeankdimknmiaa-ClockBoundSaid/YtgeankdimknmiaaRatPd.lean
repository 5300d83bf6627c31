/- Parts of two words; sums and differences of them. -/
import Derived.Test.YtgeankdimknmiaaRatPc
import Derived.Shelf.Spec.BitsCarry
namespace Go.Proofs.Ytgeankdimknmiaa
open Go.RowKit

theorem rem64_any (hi lo y : Nat) (hhi : hi < 18446744073709551616) (hy : y < 18446744073709551616) (hlo : lo < 18446744073709551616) (hpos : 0 < y) (w : World) :
    Calls Try.prog 91 #[.int .u64 hi, .int .u64 lo, .int .u64 y] w fun e w' => e = .returned (.int .u64 ((hi * 18446744073709551616 + lo) % y : Nat)) ∧ ∃ n, w' = w.drewN n := by
  have h1 : (1 : Int) ≤ (y : Int) := by omega
  have h2 : ¬ y = 0 := by omega
  have h3 : (hi : Int) % (y : Int) = ((hi % y : Nat) : Int) := rfl
  have h4 : hi % y < y := Nat.mod_lt _ hpos
  have h5 : (hi % y * 18446744073709551616 + lo) % y = (hi * 18446744073709551616 + lo) % y := by
    have e := Nat.div_add_mod' hi y
    have : hi * 18446744073709551616 + lo = (hi % y * 18446744073709551616 + lo) + hi / y * 18446744073709551616 * y := by
      rw [Nat.mul_right_comm]
      generalize hi / y * y = p at *
      generalize hi % y = m at *
      omega
    rw [this, Nat.add_mul_mod_self_right]
  have H5 := hidd h5
  clear h5
  generalize hm : hi % y = m at *
  clear hm
  go_enter Try.func91, Try.ntmps91
  go_wp2_with fail
  refine (div64_all m lo y hy hlo h4 _).mono ?_
  rintro e w1 ⟨rfl, n, rfl⟩
  go_wp2_with fail
  go_ret
  exact ⟨ret_int (by rw [← H5.out]; simp), n, rfl⟩

theorem rest_any (n h l d : Nat) (hn : Two n h l) (hd : d < 18446744073709551616) (hpos : 0 < d) (w : World) :
    Calls Try.prog 79 #[.agg #[.int .u64 h, .int .u64 l], .int .u64 d] w fun e w' => e = .returned (.int .u64 (n % d : Nat)) ∧ Below w.heap.size w w' := by
  obtain ⟨rfl, h1, h2⟩ := hn
  go_enter Try.func79, Try.ntmps79
  go_wp2_with fail
  refine (rem64_any h l d h1 hd h2 hpos _).mono ?_
  rintro e w1 ⟨rfl, hq⟩
  have hb := quiet_below hq
  clear hq
  go_wp2_with fail
  go_ret
  exact ⟨ret_int (by simp), by (repeat' (first | (with_reducible exact Below.refl _ _) | (with_reducible assumption) | (with_reducible apply Below.setCell) | (with_reducible apply Below.alloc) | (with_reducible apply Below.drew) | (with_reducible apply below_drewN) | (with_reducible refine Below.trans ?_ (Below.mono (by assumption) ?_)) | omega | (simp; done) | (simp; omega)))⟩

theorem part_facts (h l d : Nat) (h1 : h < 18446744073709551616) (h2 : l < 18446744073709551616) (hd : d < 18446744073709551616) (hpos : 0 < d) :
    ∃ m q k k2 : Nat, (h : Int) % (d : Int) = (m : Int) ∧ (h : Int) / (d : Int) = (q : Int) ∧ q < 18446744073709551616 ∧ Hid (Two ((h * 18446744073709551616 + l) / d) q k) ∧
      ∀ (w : World), Calls Try.prog 92 #[.int .u64 m, .int .u64 l, .int .u64 d] w fun e w' => e = .returned (.tuple #[.int .u64 k, .int .u64 k2]) ∧ ∃ n, w' = w.drewN n := by
  have g4 : h % d < d := Nat.mod_lt _ hpos
  have g6 : Two ((h * 18446744073709551616 + l) / d) (h / d) ((h % d * 18446744073709551616 + l) / d) := by
    have e := Nat.div_add_mod' h d
    have : h * 18446744073709551616 + l = (h % d * 18446744073709551616 + l) + h / d * 18446744073709551616 * d := by
      rw [Nat.mul_right_comm]
      generalize h / d * d = p at *
      generalize h % d = m at *
      omega
    refine ⟨?_, Nat.lt_of_le_of_lt (Nat.div_le_self _ _) h1, ?_⟩
    · rw [this, Nat.add_mul_div_right _ _ hpos, Nat.add_comm]
    · exact (Nat.div_lt_iff_lt_mul hpos).2 (by omega)
  exact ⟨h % d, h / d, _, _, rfl, rfl, Nat.lt_of_le_of_lt (Nat.div_le_self _ _) h1, g6, fun w => div64_all (h % d) l d hd h2 g4 w⟩

theorem part_any (n h l d : Nat) (hn : Two n h l) (hd : d < 18446744073709551616) (hpos : 0 < d) (w : World) :
    Calls Try.prog 80 #[.agg #[.int .u64 h, .int .u64 l], .int .u64 d] w (IsWide (n / d) w) := by
  obtain ⟨rfl, h1, h2⟩ := hn
  have g1 : (1 : Int) ≤ (d : Int) := by omega
  have g2 : ¬ d = 0 := by omega
  obtain ⟨m, q, k, k2, e1, e2, hq, G6, c⟩ := part_facts h l d h1 h2 hd hpos
  go_enter Try.func80, Try.ntmps80
  go_wp2_with fail
  go_quiet ((go_at_call 92; exact Calls.quiet_of (c _)))
  go_wp2_with fail
  exact bodyPost_ret (v := .agg #[.int .u64 q, .int .u64 k]) (by simp [results, Try.results80, go_sem]) rfl ⟨q, k, G6.out, rfl, by (repeat' (first | (with_reducible exact Below.refl _ _) | (with_reducible assumption) | (with_reducible apply Below.setCell) | (with_reducible apply Below.alloc) | (with_reducible apply Below.drew) | (with_reducible apply below_drewN) | (with_reducible refine Below.trans ?_ (Below.mono (by assumption) ?_)) | omega | (simp; done) | (simp; omega)))⟩

/-- the sum of two numbers with whether each is below nought. -/
def tog (p : Bool) (x : Nat) (q : Bool) (y : Nat) : Bool × Nat :=
  if p = q then (p, x + y) else if x < y then (q, y - x) else (p, x - y)
def IsTog (b : Bool) (n : Nat) (w : World) (e : Ending) (w' : World) : Prop :=
  ∃ h l : Nat, Two n h l ∧ e = .returned (.tuple #[.bool b, .agg #[.int .u64 h, .int .u64 l]]) ∧ Below w.heap.size w w'

theorem add64_run (x y c : Nat) (hc : c ≤ 1) (hx : x < 18446744073709551616) (hy : y < 18446744073709551616) :
    ∃ s k : Nat, k * 18446744073709551616 + s = x + y + c ∧ s < 18446744073709551616 ∧ k ≤ 1 ∧
      ∀ w, (callFunc 89 #[.int .u64 x, .int .u64 y, .int .u64 c]).run Try.prog w = .ok (.value (.tuple #[.int .u64 (s : Int), .int .u64 (k : Int)])) w := by
  refine ⟨(x + y + c) % 18446744073709551616, (x + y + c) / 18446744073709551616, by omega, by omega, by omega, fun w => ?_⟩
  rw [run_callFunc_extern Try.func89 (by kernel_rfl) (by kernel_rfl) (by kernel_rfl) (e := add64Entry) (by kernel_rfl), run_add64 x y c (by omega) (by omega) (by omega) (by omega)]
  simp only [Result.andThen]
  congr 5 <;> omega
theorem sub64_run (x y b : Nat) (hb : b ≤ 1) (hx : x < 18446744073709551616) (hy : y < 18446744073709551616) :
    ∃ s k : Nat, s + y + b = x + k * 18446744073709551616 ∧ s < 18446744073709551616 ∧ k ≤ 1 ∧
      ∀ w, (callFunc 90 #[.int .u64 x, .int .u64 y, .int .u64 b]).run Try.prog w = .ok (.value (.tuple #[.int .u64 (s : Int), .int .u64 (k : Int)])) w := by
  refine ⟨(x + 18446744073709551616 - y - b) % 18446744073709551616, if x < y + b then 1 else 0, ?_, by omega, ?_, fun w => ?_⟩
  · split <;> omega
  · split <;> omega
  · rw [run_callFunc_extern Try.func90 (by kernel_rfl) (by kernel_rfl) (by kernel_rfl) (e := sub64Entry) (by kernel_rfl), run_sub64 x y b hb]
    rfl

theorem zs3 {a b : Nat} (h : a + 2 < b) : a < b ∧ a + 1 < b ∧ a + 1 + 1 < b := by omega
set_option maxRecDepth 100000 in
theorem two_add (x y a b c d s1 k1 s2 k2 : Nat) (hx : Two x a b) (hy : Two y c d) (hs : x + y < 340282366920938463463374607431768211456)
    (a1 : k1 * 18446744073709551616 + s1 = b + d + 0) (a2 : s1 < 18446744073709551616) (b1 : k2 * 18446744073709551616 + s2 = a + c + k1) (b2 : s2 < 18446744073709551616) :
    Two (x + y) s2 s1 := by
  obtain ⟨h1, h2, h3⟩ := hx
  obtain ⟨h4, h5, h6⟩ := hy
  refine ⟨?_, b2, a2⟩
  generalize hM : 18446744073709551616 = M at *
  have e : 340282366920938463463374607431768211456 = M * M := by rw [← hM]
  rw [e] at hs
  have h7 : x + y = k2 * M * M + (s2 * M + s1) := by
    have e2 : (a + c + k1) * M = k2 * M * M + s2 * M := by rw [← b1, Nat.add_mul]
    have e3 : (a + c + k1) * M = a * M + c * M + k1 * M := by rw [Nat.add_mul, Nat.add_mul]
    omega
  have h8 : k2 = 0 := by
    rcases Nat.eq_zero_or_pos k2 with h | h
    · exact h
    · have h9 : M ≤ k2 * M := by have := Nat.mul_le_mul_right M h; omega
      have h10 : M * M ≤ k2 * M * M := Nat.mul_le_mul_right M h9
      omega
  subst h8
  omega
theorem two_sub (x y a b c d s1 k1 s2 k2 : Nat) (hx : Two x a b) (hy : Two y c d) (hs : y ≤ x)
    (a1 : s1 + d + 0 = b + k1 * 18446744073709551616) (a2 : s1 < 18446744073709551616) (b1 : s2 + c + k1 = a + k2 * 18446744073709551616) (b2 : s2 < 18446744073709551616) (b3 : k2 ≤ 1) :
    Two (x - y) s2 s1 := by
  obtain ⟨h1, h2, h3⟩ := hx
  obtain ⟨h4, h5, h6⟩ := hy
  refine ⟨?_, b2, a2⟩
  generalize hM : 18446744073709551616 = M at *
  have e1 : (s2 + c + k1) * M = (a + k2 * M) * M := by rw [b1]
  rw [Nat.add_mul, Nat.add_mul, Nat.add_mul] at e1
  have h7 : k2 = 0 := by
    rcases Nat.eq_zero_or_pos k2 with h | h
    · exact h
    · have h8 : (s2 + 1) * M ≤ M * M := Nat.mul_le_mul_right M b2
      have h9 : M ≤ k2 * M := by have := Nat.mul_le_mul_right M h; omega
      have h10 : M * M ≤ k2 * M * M := Nat.mul_le_mul_right M h9
      rw [Nat.add_mul] at h8
      omega
  subst h7
  omega
theorem two_lt (x y a b c d : Nat) (hx : Two x a b) (hy : Two y c d) (h : x < y) : (a : Int) < c ∨ (a : Int) = c ∧ (b : Int) < d := by
  obtain ⟨h1, h2, h3⟩ := hx
  obtain ⟨h4, h5, h6⟩ := hy
  omega
theorem two_nlt (x y a b c d : Nat) (hx : Two x a b) (hy : Two y c d) (h : ¬ x < y) : ¬ ((a : Int) < c ∨ (a : Int) = c ∧ (b : Int) < d) := by
  obtain ⟨h1, h2, h3⟩ := hx
  obtain ⟨h4, h5, h6⟩ := hy
  omega

set_option maxHeartbeats 1000000 in
theorem together_any (p q : Bool) (x y a b c d : Nat) (hx : Two x a b) (hy : Two y c d) (hs : x + y < 340282366920938463463374607431768211456) (w : World) :
    Calls Try.prog 78 #[.bool p, .agg #[.int .u64 a, .int .u64 b], .bool q, .agg #[.int .u64 c, .int .u64 d]] w (IsTog (tog p x q y).1 (tog p x q y).2 w) := by
  obtain ⟨_, hx1, hx2⟩ := id hx
  obtain ⟨_, hy1, hy2⟩ := id hy
  by_cases hpq : p = q
  · subst hpq
    have e1 : tog p x p y = (p, x + y) := by simp [tog]
    rw [e1]
    obtain ⟨s1, k1, a1, a2, a3, r1⟩ := add64_run b d 0 (by omega) hx2 hy2
    obtain ⟨s2, k2, b1, b2, b3, r2⟩ := add64_run a c k1 a3 hx1 hy1
    have r1' : ∀ w, (callFunc 89 #[.int .u64 b, .int .u64 d, .int .u64 0]).run Try.prog w = .ok (.value (.tuple #[.int .u64 (s1 : Int), .int .u64 (k1 : Int)])) w := r1
    have fin := hidd (two_add x y a b c d s1 k1 s2 k2 hx hy hs a1 a2 b1 b2)
    clear hx hy r1 a1 b1 hs e1
    go_enter Try.func78, Try.ntmps78
    go_wp2_with fail
    exact bodyPost_ret (v := .tuple #[.bool p, .agg #[.int .u64 s2, .int .u64 s1]]) (by simp [results, Try.results78, go_sem]) rfl ⟨s2, s1, fin.out, rfl, by (repeat' (first | (with_reducible exact Below.refl _ _) | (with_reducible assumption) | (with_reducible apply Below.setCell) | (with_reducible apply Below.alloc) | (with_reducible apply Below.drew) | (with_reducible apply below_drewN) | (with_reducible refine Below.trans ?_ (Below.mono (by assumption) ?_)) | omega | (simp; done) | (simp; omega)))⟩
  · by_cases hlt : x < y
    · have e1 : tog p x q y = (q, y - x) := by simp [tog, hpq, hlt]
      rw [e1]
      obtain ⟨s1, k1, a1, a2, a3, r1⟩ := sub64_run d b 0 (by omega) hy2 hx2
      obtain ⟨s2, k2, b1, b2, b3, r2⟩ := sub64_run c a k1 a3 hy1 hx1
      have r1' : ∀ w, (callFunc 90 #[.int .u64 d, .int .u64 b, .int .u64 0]).run Try.prog w = .ok (.value (.tuple #[.int .u64 (s1 : Int), .int .u64 (k1 : Int)])) w := r1
      have fin := hidd (two_sub y x c d a b s1 k1 s2 k2 hy hx (by omega) a1 a2 b1 b2 b3)
      have hl := two_lt x y a b c d hx hy hlt
      have hne : (p == q) = false := by simp [hpq]
      have HL := hidd hl
      clear hx hy r1 a1 b1 hs e1 hl hlt hpq
      go_enter Try.func78, Try.ntmps78
      go_wp2_with fail
      refine (less_yes _ _ _ _ HL.out _).mono ?_
      rintro e w1 ⟨rfl, hb⟩
      obtain ⟨hc, hf⟩ := bcell hb
      obtain ⟨z0, z1, z2⟩ : w.heap.size < w1.heap.size ∧ w.heap.size + 1 < w1.heap.size ∧ w.heap.size + 1 + 1 < w1.heap.size := zs3 (by have := hb.size; simp at this; omega)
      have c0 : w1.cell? ⟨w.heap.size, 0, none⟩ = some (.int .u64 (a : Int)) := by rw [hc _ _ (by (first | omega | (simp; done) | (simp; omega)))]; simp [go_sem]
      have c1 : w1.cell? ⟨w.heap.size, 1, none⟩ = some (.int .u64 (b : Int)) := by rw [hc _ _ (by (first | omega | (simp; done) | (simp; omega)))]; simp [go_sem]
      have c2 : w1.cell? ⟨w.heap.size + 1, 0, none⟩ = some (.int .u64 (c : Int)) := by rw [hc _ _ (by (first | omega | (simp; done) | (simp; omega)))]; simp [go_sem]
      have c3 : w1.cell? ⟨w.heap.size + 1, 1, none⟩ = some (.int .u64 (d : Int)) := by rw [hc _ _ (by (first | omega | (simp; done) | (simp; omega)))]; simp [go_sem]
      go_wp2_with fail
      exact bodyPost_ret (v := .tuple #[.bool q, .agg #[.int .u64 s2, .int .u64 s1]]) (by simp [results, Try.results78, go_sem, *]) rfl ⟨s2, s1, fin.out, rfl, by (repeat' (first | (with_reducible exact Below.refl _ _) | (with_reducible assumption) | (with_reducible apply Below.setCell) | (with_reducible apply Below.alloc) | (with_reducible apply Below.drew) | (with_reducible apply below_drewN) | (with_reducible refine Below.trans ?_ (Below.mono (by assumption) ?_)) | omega | (simp; done) | (simp; omega)))⟩
    · have e1 : tog p x q y = (p, x - y) := by simp [tog, hpq, hlt]
      rw [e1]
      obtain ⟨s1, k1, a1, a2, a3, r1⟩ := sub64_run b d 0 (by omega) hx2 hy2
      obtain ⟨s2, k2, b1, b2, b3, r2⟩ := sub64_run a c k1 a3 hx1 hy1
      have r1' : ∀ w, (callFunc 90 #[.int .u64 b, .int .u64 d, .int .u64 0]).run Try.prog w = .ok (.value (.tuple #[.int .u64 (s1 : Int), .int .u64 (k1 : Int)])) w := r1
      have fin := hidd (two_sub x y a b c d s1 k1 s2 k2 hx hy (by omega) a1 a2 b1 b2 b3)
      have hl := two_nlt x y a b c d hx hy hlt
      have hne : (p == q) = false := by simp [hpq]
      have HL := hidd hl
      clear hx hy r1 a1 b1 hs e1 hl hlt hpq
      go_enter Try.func78, Try.ntmps78
      go_wp2_with fail
      refine (less_no _ _ _ _ HL.out _).mono ?_
      rintro e w1 ⟨rfl, hb⟩
      obtain ⟨hc, hf⟩ := bcell hb
      obtain ⟨z0, z1, z2⟩ : w.heap.size < w1.heap.size ∧ w.heap.size + 1 < w1.heap.size ∧ w.heap.size + 1 + 1 < w1.heap.size := zs3 (by have := hb.size; simp at this; omega)
      go_wp2_with fail
      exact bodyPost_ret (v := .tuple #[.bool p, .agg #[.int .u64 s2, .int .u64 s1]]) (by simp [results, Try.results78, go_sem, *]) rfl ⟨s2, s1, fin.out, rfl, by (repeat' (first | (with_reducible exact Below.refl _ _) | (with_reducible assumption) | (with_reducible apply Below.setCell) | (with_reducible apply Below.alloc) | (with_reducible apply Below.drew) | (with_reducible apply below_drewN) | (with_reducible refine Below.trans ?_ (Below.mono (by assumption) ?_)) | omega | (simp; done) | (simp; omega)))⟩
end Go.Proofs.Ytgeankdimknmiaa
