/- Buckets: what is left is what the sendings that were taken leave. -/
import Derived.Test.YthaiphkmkchhoaaBkN0
import Derived.Test.YthaiphkmkchhoaaSpN
import Derived.Test.YthaiphkmkchhoaaSmA
namespace Go.Proofs.Ythaiphkmkchhoaa
set_option linter.unusedVariables false
namespace BM
theorem K_congr {a s a' s' : Nat → Int} {rate : Int} : ∀ {n : Nat}, (∀ j, j < n → a j = a' j) → (∀ j, j < n → s j = s' j) → SM.K a s rate n = SM.K a' s' rate n
  | 0, _, _ => rfl
  | n + 1, ha, hs => by
    have ih := K_congr (rate := rate) (n := n) (fun j hj => ha j (by omega)) (fun j hj => hs j (by omega))
    have hn : SM.now a n = SM.now a' n := by
      cases n with
      | zero => rfl
      | succ k => exact ha k (by omega)
    simp only [SM.K, ih, hn, ha n (by omega), hs n (by omega)]
/-- how much is kept of a line behind a list, and when its last was. -/
def kept (rate : Int) (T : List (Int × Int)) : Int := SM.K (SM.av T) (SM.sv T) rate T.length
def last (T : List (Int × Int)) : Int := SM.now (SM.av T) T.length
def Keep (p r u m l : Int) (T : List (Int × Int)) : Prop := SM.KP (SM.av T) (SM.sv T) p r u m l T.length
theorem last_snoc (T : List (Int × Int)) (x : Int × Int) : last (T ++ [x]) = x.1 := by
  unfold last
  rw [List.length_append, List.length_singleton]
  show SM.av (T ++ [x]) T.length = x.1
  exact (SM.av_last).1
theorem kept_snoc (rate : Int) (T : List (Int × Int)) (x : Int × Int) : kept rate (T ++ [x]) = max (kept rate T - rate * (x.1 - last T)) 0 + x.2 := by
  unfold kept last
  rw [List.length_append, List.length_singleton]
  have e0 : SM.K (SM.av (T ++ [x])) (SM.sv (T ++ [x])) rate T.length = SM.K (SM.av T) (SM.sv T) rate T.length := K_congr (fun j hj => (SM.av_app hj).1) (fun j hj => (SM.av_app hj).2)
  have e1 : SM.now (SM.av (T ++ [x])) T.length = SM.now (SM.av T) T.length := by
    cases h : T.length with
    | zero => rfl
    | succ k => exact (SM.av_app (by omega)).1
  show SM.more rate (SM.K (SM.av (T ++ [x])) (SM.sv (T ++ [x])) rate T.length) (SM.now (SM.av (T ++ [x])) T.length) (SM.av (T ++ [x]) T.length) (SM.sv (T ++ [x]) T.length) = _
  rw [e0, e1, (SM.av_last).1, (SM.av_last).2]
  rfl
theorem ok_app {T : List (Int × Int)} {x : Int × Int} {m l : Int} {i : Nat} (hi : i < T.length) : SM.OkAt (SM.av (T ++ [x])) (SM.sv (T ++ [x])) m l i ↔ SM.OkAt (SM.av T) (SM.sv T) m l i := by
  unfold SM.OkAt
  rw [(SM.av_app hi).1, (SM.av_app hi).2]
  cases i with
  | zero => simp
  | succ k => rw [show k + 1 - 1 = k by omega, (SM.av_app (show k < T.length by omega)).1]
theorem ok_last {T : List (Int × Int)} {x : Int × Int} {m l : Int} (h0 : 0 ≤ x.1) (hT : ∀ i, i < T.length → SM.OkAt (SM.av T) (SM.sv T) m l i) : SM.OkAt (SM.av (T ++ [x])) (SM.sv (T ++ [x])) m l T.length ↔ last T ≤ x.1 ∧ x.1 ≤ 2147483647 ∧ l ≤ x.2 ∧ x.2 ≤ m := by
  unfold SM.OkAt last
  rw [(SM.av_last).1, (SM.av_last).2]
  cases h : T.length with
  | zero => simp [SM.now]
  | succ k =>
    have e : SM.av (T ++ [x]) (k + 1 - 1) = SM.av T k := (SM.av_app (by omega)).1
    rw [e]
    simp only [SM.now]
    constructor
    · rintro ⟨a, b, c, d, f⟩
      exact ⟨f (by omega), b, c, d⟩
    · rintro ⟨a, b, c, d⟩
      exact ⟨h0, b, c, d, fun _ => a⟩
theorem keep_snoc {p r u m l : Int} (hp : 0 ≤ p) (hr : 0 ≤ r) {T : List (Int × Int)} {x : Int × Int} (h0 : 0 ≤ x.1) (h : Keep p r u m l T) :
    Keep p r u m l (T ++ [x]) ↔ (last T ≤ x.1 ∧ x.1 ≤ 2147483647 ∧ l ≤ x.2 ∧ x.2 ≤ m) ∧ kept p (T ++ [x]) ≤ m ∧ kept r (T ++ [x]) ≤ u := by
  unfold Keep at *
  rw [SM.KP_iff hp hr] at h ⊢
  have hT : ∀ i, i < T.length → SM.OkAt (SM.av T) (SM.sv T) m l i := fun i hi => (h i hi).1
  have hk : ∀ rate i, i < T.length → SM.K (SM.av (T ++ [x])) (SM.sv (T ++ [x])) rate (i + 1) = SM.K (SM.av T) (SM.sv T) rate (i + 1) := fun rate i hi => K_congr (fun j hj => (SM.av_app (by omega)).1) (fun j hj => (SM.av_app (by omega)).2)
  have hl : (T ++ [x]).length = T.length + 1 := by simp
  unfold kept
  rw [hl]
  constructor
  · intro hg
    obtain ⟨a, b, c⟩ := hg T.length (by omega)
    exact ⟨(ok_last h0 hT).1 a, b, c⟩
  · rintro ⟨a, b, c⟩ i hi
    by_cases e : i = T.length
    · subst e
      exact ⟨(ok_last h0 hT).2 a, b, c⟩
    · obtain ⟨a', b', c'⟩ := h i (by omega)
      exact ⟨(ok_app (by omega)).2 a', by rw [hk p i (by omega)]; exact b', by rw [hk r i (by omega)]; exact c'⟩
/-- what is left, by what was taken. -/
def left (rate cap : Int) (T : List (Int × Int)) (t : Int) : Int := cap - max (kept rate T - rate * (t - last T)) 0
structure Inv (p r u m l : Int) (T : List (Int × Int)) (s : St) : Prop where
  keep : Keep p r u m l T
  le : last T ≤ s.1
  l0 : s.2.1 = left r u T s.1
  l1 : s.2.2 = left p m T s.1
theorem Inv.nil {p r u m l : Int} (h : rightB p r u m l = true) : Inv p r u m l [] (0, u, m) := by
  refine ⟨⟨fun i hi => absurd hi (by simp), fun i k _ hk => absurd hk (by simp)⟩, by simp [last, SM.now], ?_, ?_⟩
  · simp [left, kept, last, SM.K, SM.now]
  · simp [left, kept, last, SM.K, SM.now]
theorem later_left {rate cap : Int} {T : List (Int × Int)} {t t' x : Int} (hr : 0 ≤ rate) (hc : 0 ≤ x) (hx : x = left rate cap T t) (ht : t ≤ t') : later x cap rate (t' - t) = left rate cap T t' := by
  have e : rate * (t' - last T) = rate * (t - last T) + rate * (t' - t) := by rw [← Int.mul_add]; congr 1; omega
  have h0 : 0 ≤ rate * (t' - t) := Int.mul_nonneg hr (by omega)
  unfold left at hx ⊢
  unfold later bnd
  rw [e]
  generalize rate * (t' - t) = D at *
  generalize rate * (t - last T) = E at *
  omega
theorem Inv.lev0 {p r u m l : Int} {T : List (Int × Int)} {s : St} (h : Inv p r u m l T s) (hr : 0 ≤ r) (hs : Ok u m s) {t : Int} (ht : s.1 ≤ t) : lev0 r u s t = left r u T t := later_left hr hs.2.2.1 h.l0 ht
theorem Inv.lev1 {p r u m l : Int} {T : List (Int × Int)} {s : St} (h : Inv p r u m l T s) (hp : 0 ≤ p) (hs : Ok u m s) {t : Int} (ht : s.1 ≤ t) : lev1 p m s t = left p m T t := later_left hp hs.2.2.2.2.1 h.l1 ht
/-- a packet keeps to the bucket just if it keeps to the spec with those taken ahead of it. -/
theorem Inv.fit {p r u m l : Int} {T : List (Int × Int)} {s : St} (h : Inv p r u m l T s) (hp : 0 ≤ p) (hr : 0 ≤ r) (hs : Ok u m s) {t z : Int} (h0 : s.1 ≤ t) (h1 : t ≤ 2147483647) :
    fitB p r u m l s t z = true ↔ Keep p r u m l (T ++ [(t, z)]) := by
  have hle := h.le
  rw [keep_snoc hp hr (x := (t, z)) (by have := hs.1; show 0 ≤ t; omega) h.keep, kept_snoc, kept_snoc]
  unfold fitB
  rw [h.lev0 hr hs h0, h.lev1 hp hs h0, Bool.and_eq_true]
  unfold sizeB left
  simp only [decide_eq_true_eq]
  constructor
  · rintro ⟨⟨a, b⟩, c, d⟩
    exact ⟨⟨by omega, h1, a, b⟩, by omega, by omega⟩
  · rintro ⟨⟨a, b, c, d⟩, e, f⟩
    exact ⟨⟨c, d⟩, by omega, by omega⟩
theorem left_snoc (rate cap t z : Int) (T : List (Int × Int)) (hz : 0 ≤ z) : left rate cap (T ++ [(t, z)]) t = left rate cap T t - z := by
  unfold left
  rw [kept_snoc, last_snoc]
  simp only [Int.sub_self, Int.mul_zero]
  omega
/-- behind a packet. -/
def took (T : List (Int × Int)) (is : Bool) (t z : Int) : List (Int × Int) := if is then T ++ [(t, z)] else T
theorem Inv.step {p r u m l : Int} {T : List (Int × Int)} {s : St} (h : Inv p r u m l T s) (hp : 0 ≤ p) (hr : 0 ≤ r) (hl : 0 ≤ l) (hs : Ok u m s) (t z : Int) :
    Inv p r u m l (took T (step p r u m l s t z).2.1 t z) (step p r u m l s t z).1 := by
  unfold BM.step
  by_cases hq : askB s t = true
  · rw [if_pos hq]
    have hq' := of_decide_eq_true hq
    by_cases hf : fitB p r u m l s t z = true
    · rw [if_pos hf]
      have hk := (h.fit hp hr hs hq'.1 hq'.2).1 hf
      have hz : 0 ≤ z := by
        unfold fitB at hf
        rw [Bool.and_eq_true] at hf
        have := of_decide_eq_true hf.1
        omega
      refine ⟨hk, ?_, ?_, ?_⟩
      · show last (T ++ [(t, z)]) ≤ t
        rw [last_snoc]
        exact Int.le_refl _
      · show BM.lev0 r u s t - z = left r u (T ++ [(t, z)]) t
        rw [left_snoc _ _ _ _ _ hz, h.lev0 hr hs hq'.1]
      · show BM.lev1 p m s t - z = left p m (T ++ [(t, z)]) t
        rw [left_snoc _ _ _ _ _ hz, h.lev1 hp hs hq'.1]
    · rw [if_neg hf]
      exact ⟨h.keep, by have := h.le; show last T ≤ t; omega, h.lev0 hr hs hq'.1, h.lev1 hp hs hq'.1⟩
  · rw [if_neg hq]
    exact h
theorem step_is {p r u m l : Int} {T : List (Int × Int)} {s : St} (h : Inv p r u m l T s) (hp : 0 ≤ p) (hr : 0 ≤ r) (hs : Ok u m s) (t z : Int) :
    (BM.step p r u m l s t z).2.1 = true ↔ askB s t = true ∧ Keep p r u m l (T ++ [(t, z)]) := by
  unfold BM.step
  by_cases hq : askB s t = true
  · rw [if_pos hq]
    have hq' := of_decide_eq_true hq
    rw [← h.fit hp hr hs hq'.1 hq'.2]
    by_cases hf : fitB p r u m l s t z = true
    · rw [if_pos hf]; simp [hf, hq]
    · rw [if_neg hf]; simp [hf]
  · rw [if_neg hq]
    simp [hq]
end BM
end Go.Proofs.Ythaiphkmkchhoaa
