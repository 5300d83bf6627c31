/- Sums as remainders: noughts behind, pairs that are turned, a sum behind a change, sealed again. Plain facts. -/
import Derived.Test.YtmpiobpgjlceaaaCkP
import Derived.Test.YtmpiobpgjlceaaaCkJ
namespace Go.Proofs.Ytmpiobpgjlceaaa
set_option linter.unusedVariables false

theorem tot_snoc0 : ∀ l : List Int, tot (l ++ [0]) = tot l
  | [] => by simp [tot]
  | [x] => by simp [tot]
  | x :: y :: l => by
    have := tot_snoc0 l
    simp only [List.cons_append, tot, this]
theorem tot_zeros (k : Nat) : ∀ l : List Int, tot (l ++ List.replicate k 0) = tot l := by
  induction k with
  | zero => intro l; simp
  | succ k ih =>
    intro l
    have e : l ++ List.replicate (k + 1) (0 : Int) = (l ++ [0]) ++ List.replicate k 0 := by simp [List.replicate_succ]
    rw [e, ih, tot_snoc0]
theorem tot_app : ∀ (l : List Int) (x y : Int), l.length % 2 = 0 → tot (l ++ [x, y]) = tot l + (256 * x + y)
  | [], x, y, _ => by simp [tot]
  | [a], x, y, h => by simp at h
  | a :: b :: l, x, y, h => by
    have := tot_app l x y (by simp at h; omega)
    simp only [List.cons_append, tot, this]; omega
theorem zeros_bytes {l : List Int} (h : Bytes l) (k : Nat) : Bytes (l ++ List.replicate k 0) := fun x hx => by
  rcases List.mem_append.1 hx with h1 | h1
  · exact h x h1
  · rw [(List.mem_replicate.1 h1).2]; omega
theorem sum_zeros {l : List Int} (h : Bytes l) (k : Nat) : sumR (l ++ List.replicate k 0) = sumR l := by rw [sumR_tot (zeros_bytes h k), sumR_tot h, tot_zeros]
theorem tot_nought : ∀ {l : List Int}, Bytes l → tot l = 0 → noughtB l = true
  | [], _, _ => rfl
  | [x], h, e => by
    have := h x (by simp)
    simp [tot] at e
    have : x = 0 := by omega
    subst this; rfl
  | x :: y :: l, h, e => by
    have h1 := h x (by simp)
    have h2 := h y (by simp)
    have h3 : Bytes l := fun z hz => h z (by simp [hz])
    have h4 := tot_nonneg h3
    simp only [tot] at e
    have ih := tot_nought h3 (by omega)
    have : x = 0 := by omega
    subst this
    have : y = 0 := by omega
    subst this
    unfold noughtB at *
    simpa using ih
theorem tot_pos {l : List Int} (h : Bytes l) (hn : noughtB l = false) : 0 < tot l := by
  have h0 := tot_nonneg h
  by_cases e : tot l = 0
  · rw [tot_nought h e] at hn; cases hn
  · omega
/-- a sum behind a change of one pair is that of the bytes so changed. -/
theorem patch_sum {b : List Int} {i : Nat} {x y : Int} (h : Bytes b) (he : i % 2 = 0) (hi : i + 2 ≤ b.length) (hx : 0 ≤ x ∧ x ≤ 255) (hy : 0 ≤ y ∧ y ≤ 255) (hn : noughtB b = false) (hn2 : noughtB ((b.set i x).set (i + 1) y) = false) :
    65535 - put (put (65535 - sumR b) (65535 - (256 * av b i + av b (i + 1)))) (256 * x + y) = sumR ((b.set i x).set (i + 1) y) := by
  have ho := set_bytes (set_bytes h i hx) (i + 1) hy
  have p1 := tot_pos h hn
  have p2 := tot_pos ho hn2
  have q1 := h _ (av_mem (show i < b.length by omega))
  have q2 := h _ (av_mem (show i + 1 < b.length by omega))
  rw [sumR_tot h, sumR_tot ho, tot_pair he hi] at *
  have e1 : (65535 : Int) - (65535 - nm (tot b)) = nm (tot b) := by omega

  rw [e1, nm_put (by omega) ⟨by omega, by omega⟩, nm_put (by omega) ⟨by omega, by omega⟩]
  congr 1
  exact nm_eq (by omega) (by omega) (by omega)
/-- sealed again the same. -/
theorem zeroed_seal (l : List Int) (i : Nat) : zeroed (sealL l i) i = zeroed l i := by
  unfold sealL
  generalize sumR (zeroed l i) / 256 = a
  generalize sumR (zeroed l i) % 256 = b
  unfold zeroed
  apply List.ext_getElem
  · simp
  · intro j h1 h2
    simp only [List.getElem_set]
    split
    · rfl
    · split
      · rfl
      · rfl
theorem seal_again (l : List Int) (i : Nat) : sealL (sealL l i) i = sealL l i := by
  have h := zeroed_seal l i
  show ((zeroed (sealL l i) i).set i (sumR (zeroed (sealL l i) i) / 256)).set (i + 1) (sumR (zeroed (sealL l i) i) % 256) = sealL l i
  rw [h]
  rfl
/-- two numbers of 8 bits as one of 16. -/
theorem or16 {a b : Int} (ha : 0 ≤ a ∧ a ≤ 255) (hb : 0 ≤ b ∧ b ≤ 255) : bits .or .u16 (256 * a) b = 256 * a + b := by
  obtain ⟨n, rfl⟩ := Int.eq_ofNat_of_zero_le ha.1
  obtain ⟨m, rfl⟩ := Int.eq_ofNat_of_zero_le hb.1
  have hn : n < 256 := by omega
  have hm : m < 2 ^ 8 := by omega
  have c : (256 * (n : Int)) = ((256 * n : Nat) : Int) := by omega
  rw [c]
  simp only [bits, show IntKind.u16.bits = 16 from rfl, BitVec.ofInt_natCast, BitVec.toNat_or, BitVec.toNat_ofNat]
  rw [Nat.mod_eq_of_lt (show 256 * n < 2 ^ 16 by omega), Nat.mod_eq_of_lt (show m < 2 ^ 16 by omega), IntKind.wrap_u16]
  have e : 256 * n ||| m = 256 * n + m := by
    have := Nat.shiftLeft_add_eq_or_of_lt hm n
    rw [Nat.shiftLeft_eq] at this
    rw [show 256 * n = n * 2 ^ 8 by omega, ← this]
  rw [e]
  omega
/-- a number's bytes the other way round. -/
def rot (n : Int) : Int := 256 * (n % 256) + n / 256
theorem rot_ops {n : Int} (h : W16 n) : IntKind.u16.wrap (n * 256) = 256 * (n % 256) ∧ bits .or .u16 (256 * (n % 256)) (n / 256) = rot n := by
  obtain ⟨h0, h1⟩ := h
  refine ⟨by rw [IntKind.wrap_u16]; omega, ?_⟩
  unfold rot
  exact or16 ⟨by omega, by omega⟩ ⟨by omega, by omega⟩
/-- bytes whose pairs are turned. -/
theorem turned_sum {l m : List Int} {X Y : Int} (hl : Bytes l) (hm : Bytes m) (h1 : tot l = 256 * X + Y) (h2 : tot m = 256 * Y + X) (hX : 0 ≤ X) (hY : 0 ≤ Y) : sumR m = rot (sumR l) := by
  rw [sumR_tot hl, sumR_tot hm, h1, h2]
  unfold rot nm
  split <;> split <;> omega
theorem same_tot {l m : List Int} (hl : Bytes l) (hm : Bytes m) (h : tot m = tot l) : sumR m = sumR l := by rw [sumR_tot hl, sumR_tot hm, h]
end Go.Proofs.Ytmpiobpgjlceaaa
