/- The faces of making one and of rounding. -/
import Derived.Test.YtgeankdimknmiaaRatPj
namespace Go.Proofs.Ytgeankdimknmiaa
open Go.RowKit

/-- how a step ends that tells (N, D) where nothing was wrong, and gives up by a number elsewhere. -/
def endOf (r : Int × Int × Int) : Ending :=
  if r.2.2 = 0 then .returned (.agg #[.int .i64 r.1, .int .i64 r.2.1]) else errPanic r.2.2
theorem endOf_ok (r : Int × Int × Int) (h : r.2.2 = 0) : endOf r = .returned (.agg #[.int .i64 r.1, .int .i64 r.2.1]) := by simp [endOf, h]
theorem endOf_no (r : Int × Int × Int) (h : ¬ r.2.2 = 0) : endOf r = errPanic r.2.2 := by simp only [endOf, if_neg h]
/-- beside an error all else is nought. -/
def Clean (r : Int × Int × Int) : Prop := ¬ r.2.2 = 0 → r.1 = 0 ∧ r.2.1 = 0
def pairOf (r : Int × Int × Int) : Value := .tuple #[.agg #[.int .i64 r.1, .int .i64 r.2.1], .int .i64 r.2.2]

theorem fracP_clean (b : Bool) (n d : Nat) : Clean (RM.fracP b n d) := by
  unfold Clean RM.fracP
  split <;> simp
theorem fracN_clean (b : Bool) (n d : Nat) : Clean (RM.fracN b n d) := by
  unfold RM.fracN
  split
  · simp [Clean]
  · exact fracP_clean _ _ _

def makeR (n d : Int) : Int × Int × Int := RM.fracN (decide (n < 0) != decide (d < 0)) n.natAbs d.natAbs

theorem by_any (n d : Int) (h0 : -9223372036854775808 ≤ n) (h1 : n ≤ 9223372036854775807) (h2 : -9223372036854775808 ≤ d) (h3 : d ≤ 9223372036854775807) (w : World) :
    Calls Try.prog 53 #[.int .i64 n, .int .i64 d] w fun e w' => e = endOf (makeR n d) ∧ Below w.heap.size w w' := by
  by_cases hd : d = 0
  · have : makeR n d = (0, 0, 2) := by simp [makeR, RM.fracN, hd]
    rw [this]
    exact (by_zero n d hd w).mono fun _ _ ⟨he, hw⟩ => ⟨by rw [he]; rfl, hw⟩
  · have hd2 : ¬ d.natAbs = 0 := by omega
    by_cases hf : n.natAbs / Nat.gcd n.natAbs d.natAbs < 9223372036854775808 ∧ d.natAbs / Nat.gcd n.natAbs d.natAbs < 9223372036854775808
    · have : makeR n d = (RM.sgn (decide (n < 0) != decide (d < 0)) (n.natAbs / Nat.gcd n.natAbs d.natAbs), ((d.natAbs / Nat.gcd n.natAbs d.natAbs : Nat) : Int), 0) := by
        unfold makeR RM.fracN RM.fracP; rw [if_neg hd2, if_pos hf]
      rw [this]
      exact (by_ok n d hd h0 h1 h2 h3 hf.1 hf.2 w).mono fun _ _ ⟨he, hw⟩ => ⟨by rw [he]; rfl, hw⟩
    · have : makeR n d = (0, 0, 110) := by
        unfold makeR RM.fracN RM.fracP; rw [if_neg hd2, if_neg hf]
      rw [this]
      exact (by_no n d hd h0 h1 h2 h3 hf w).mono fun _ _ ⟨he, hw⟩ => ⟨by rw [he]; rfl, hw⟩

/-- a face's last step, for whatever step: what it answers. -/
theorem toldR_any (K : Nat) (he : ∀ args w, (callFunc K args).run Try.prog w = .ok (.enter K args) w) (cap : Array Value) (sv : Value) (w : World) (r : Int × Int × Int) (hr : Clean r)
    (cf : Looks sv false w) (cs : StepsTo K cap (endOf r) w) :
    Calls Try.prog 47 #[.func (Fn.func K) #[] cap, sv] w fun e w' => e = .returned (pairOf r) ∧ Below w.heap.size w w' := by
  by_cases h : r.2.2 = 0
  · rw [endOf_ok r h] at cs
    exact (toldR_ok K he cap sv w r.1 r.2.1 cf cs).mono fun _ _ ⟨he, hw⟩ => ⟨by rw [he]; simp [pairOf, h], hw⟩
  · rw [endOf_no r h] at cs
    exact (toldR_no K he cap sv w r.2.2 cf cs).mono fun _ _ ⟨he, hw⟩ => ⟨by rw [he]; simp [pairOf, hr h], hw⟩
theorem looks_nil (w : World) : Looks (.slice none 0 0) false w :=
  fun W _ => (contains_nil W).mono fun _ _ ⟨he, hw⟩ => ⟨he, by rw [← hw]; exact Below.refl _ _⟩

theorem enters35 : ∀ args w, (callFunc 52 args).run Try.prog w = .ok (.enter 52 args) w := fun args w => by simp [callFunc, Try.func52, Try.f52, mark]

set_option maxHeartbeats 1000000 in
theorem makeStep (n d : Int) (h0 : -9223372036854775808 ≤ n) (h1 : n ≤ 9223372036854775807) (h2 : -9223372036854775808 ≤ d) (h3 : d ≤ 9223372036854775807)
    (p q : Nat) (w : World) (hc : w.cell? ⟨p, 0, none⟩ = some (.int .i64 n)) (hd : w.cell? ⟨q, 0, none⟩ = some (.int .i64 d)) (hp : p < w.heap.size) (hq : q < w.heap.size) :
    StepsTo 52 #[.pointer (some ⟨p, 0, none⟩), .pointer (some ⟨q, 0, none⟩)] (endOf (makeR n d)) w := by
  intro W hW
  have c1 : W.cell? ⟨p, 0, none⟩ = some (.int .i64 n) := (hW.cell (p := ⟨p, 0, none⟩) hp).trans hc
  have c2 : W.cell? ⟨q, 0, none⟩ = some (.int .i64 d) := (hW.cell (p := ⟨q, 0, none⟩) hq).trans hd
  have hp' : p < W.heap.size := Nat.lt_of_lt_of_le hp hW.size
  have hq' : q < W.heap.size := Nat.lt_of_lt_of_le hq hW.size
  have cb := fun W => by_any n d h0 h1 h2 h3 W
  clear hW hc hd hp hq
  generalize makeR n d = r at *
  by_cases h : r.2.2 = 0
  · have RE := hidd (endOf_ok r h)
    rw [endOf_ok r h] at cb
    clear h
    go_enter Try.func52, Try.ntmps52
    go_wp2_with fail
    refine (cb _).mono ?_
    rintro e w1 ⟨rfl, hb⟩
    obtain ⟨bc, bf⟩ := bcell hb
    have z : W.heap.size < w1.heap.size := by have := hb.size; simp at this; omega
    go_wp2_with fail
    exact bodyPost_ret (v := .agg #[.int .i64 r.1, .int .i64 r.2.1]) (by simp [results, Try.results52, go_sem, *]) rfl ⟨RE.out.symm, by (repeat' (first | (with_reducible exact Below.refl _ _) | (with_reducible assumption) | (with_reducible apply Below.setCell) | (with_reducible apply Below.alloc) | (with_reducible apply Below.drew) | (with_reducible apply below_drewN) | (with_reducible refine Below.trans ?_ (Below.mono (by assumption) ?_)) | omega | (simp; done) | (simp; omega)))⟩
  · have RE := hidd (endOf_no r h)
    rw [endOf_no r h] at cb
    clear h
    go_enter Try.func52, Try.ntmps52
    go_wp2_with fail
    refine (cb _).mono ?_
    rintro e w1 ⟨rfl, hb⟩
    go_wp2_with fail
    exact ⟨rfl, RE.out.symm, by (repeat' (first | (with_reducible exact Below.refl _ _) | (with_reducible assumption) | (with_reducible apply Below.setCell) | (with_reducible apply Below.alloc) | (with_reducible apply Below.drew) | (with_reducible apply below_drewN) | (with_reducible refine Below.trans ?_ (Below.mono (by assumption) ?_)) | omega | (simp; done) | (simp; omega)))⟩

set_option maxHeartbeats 1000000 in
theorem make_any (n d : Int) (h0 : -9223372036854775808 ≤ n) (h1 : n ≤ 9223372036854775807) (h2 : -9223372036854775808 ≤ d) (h3 : d ≤ 9223372036854775807) (w : World) :
    Calls Try.prog 32 #[.int .i64 n, .int .i64 d] w fun e w' => e = .returned (pairOf (makeR n d)) ∧ Below w.heap.size w w' := by
  have hmf : ∀ (fn : Fn) (first cap : Array Value) (w : World), (Instr.makeFunc fn first cap).run Try.prog w = .ok (.func fn first cap) w := fun _ _ _ _ => rfl
  have cs := hidd (fun p q W => makeStep n d h0 h1 h2 h3 p q W)
  have hr : Clean (makeR n d) := fracN_clean _ _ _
  have HR := hidd hr
  clear hr
  generalize makeR n d = r at *
  go_enter Try.func32, Try.ntmps32
  go_wp2_with fail
  refine (toldR_any _ enters35 _ _ _ r HR.out (looks_nil _) (cs.out _ _ _ (by simp [go_sem]) (by simp [go_sem]) (by (first | omega | (simp; done) | (simp; omega))) (by (first | omega | (simp; done) | (simp; omega))))).mono ?_
  rintro e w1 ⟨rfl, hb⟩
  unfold pairOf
  obtain ⟨bc, bf⟩ := bcell hb
  have z : w.heap.size + 1 + 1 < w1.heap.size := by have := hb.size; simp at this; omega
  go_wp2_with fail
  exact bodyPost_ret (v := .tuple #[.agg #[.int .i64 r.1, .int .i64 r.2.1], .int .i64 r.2.2]) (by simp [results, Try.results32, go_sem, *]) rfl ⟨rfl, by (repeat' (first | (with_reducible exact Below.refl _ _) | (with_reducible assumption) | (with_reducible apply Below.setCell) | (with_reducible apply Below.alloc) | (with_reducible apply Below.drew) | (with_reducible apply below_drewN) | (with_reducible refine Below.trans ?_ (Below.mono (by assumption) ?_)) | omega | (simp; done) | (simp; omega)))⟩

/-- a list of one fraction in memory of the call's own. -/
theorem looks_one (n d : Int) (h0 : -9223372036854775808 ≤ n) (h1 : n ≤ 9223372036854775807) (h2 : -9223372036854775808 ≤ d) (h3 : d ≤ 9223372036854775807) (b : Nat) (w : World)
    (hb : b < w.heap.size) (hc : w.cell? ⟨b, 0, none⟩ = some (.int .i64 n)) (hd : w.cell? ⟨b, 1, none⟩ = some (.int .i64 d)) (c : Nat) :
    Looks (.slice (some ⟨b, 0, none⟩) 1 c) (!rightB n d) w := by
  intro W hW
  have hl : Lies w b 0 [(n, d)] := by
    intro i hi
    have : i = 0 := by simpa using hi
    subst this
    exact ⟨hc, hd⟩
  have h := contains_any [(n, d)] (by intro x hx; simp at hx; subst hx; exact ⟨h0, h1, h2, h3⟩) b 0 c W (Nat.lt_of_lt_of_le hb hW.size) (hl.below hW hb) (by simp)
  simpa [allRight] using h
theorem looks_two (n d m e : Int) (h0 : -9223372036854775808 ≤ n) (h1 : n ≤ 9223372036854775807) (h2 : -9223372036854775808 ≤ d) (h3 : d ≤ 9223372036854775807)
    (k0 : -9223372036854775808 ≤ m) (k1 : m ≤ 9223372036854775807) (k2 : -9223372036854775808 ≤ e) (k3 : e ≤ 9223372036854775807) (b : Nat) (w : World)
    (hb : b < w.heap.size) (hc : w.cell? ⟨b, 0, none⟩ = some (.int .i64 n)) (hd : w.cell? ⟨b, 1, none⟩ = some (.int .i64 d)) (hm : w.cell? ⟨b, 2, none⟩ = some (.int .i64 m)) (he : w.cell? ⟨b, 3, none⟩ = some (.int .i64 e)) (c : Nat) :
    Looks (.slice (some ⟨b, 0, none⟩) 2 c) (!(rightB n d && rightB m e)) w := by
  intro W hW
  have hl : Lies w b 0 [(n, d), (m, e)] := by
    intro i hi
    have : i = 0 ∨ i = 1 := by simp at hi; omega
    rcases this with rfl | rfl
    · exact ⟨hc, hd⟩
    · exact ⟨hm, he⟩
  have h := contains_any [(n, d), (m, e)] (by intro x hx; simp at hx; rcases hx with rfl | rfl; exact ⟨h0, h1, h2, h3⟩; exact ⟨k0, k1, k2, k3⟩) b 0 c W (Nat.lt_of_lt_of_le hb hW.size) (hl.below hW hb) (by simp)
  simpa [allRight] using h
end Go.Proofs.Ytgeankdimknmiaa
