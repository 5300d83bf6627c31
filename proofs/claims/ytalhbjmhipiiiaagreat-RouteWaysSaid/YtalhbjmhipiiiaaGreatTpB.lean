/- Maps: small functions; may a link be. -/
import Derived.Test.YtalhbjmhipiiiaaGreatTpA
namespace Go.Proofs.YtalhbjmhipiiiaaGreat.Tp
set_option linter.unusedVariables false
open Go.RowKit

theorem wp_scope_fwd {P : Program} {a : Act} {w : World} {Q : Exit → Act → World → Prop} {c rest : Code} (l : Nat) (J : Act → World → Prop) (hf : findLabel c l = some rest)
    (first : c.wp P (Exit.jump l J Q) a w) (pass : ∀ a w, J a w → rest.wp P (Exit.noGoto Q) a w) : (Code.scope c).wp P Q a w :=
  wp_scope_jumps l J (fun _ _ => 0) hf first fun a w h => wp_mono (pass a w h) fun e a w hq => by
    cases e <;> first | exact hq | exact hq.elim
def inB (a n b : Int) : Bool := decide (a ≤ n) && decide (n ≤ b)
theorem inB_iff {a n b : Int} : inB a n b = true ↔ a ≤ n ∧ n ≤ b := by unfold inB; simp
theorem inB_no {a n b : Int} (h : ¬ (a ≤ n ∧ n ≤ b)) : inB a n b = false := by
  cases e : inB a n b
  · rfl
  · exact absurd (inB_iff.1 e) h
def neB (a b : Int) : Bool := a != b
theorem neB_iff {a b : Int} : neB a b = true ↔ a ≠ b := by unfold neB; simp
def notB (b : Bool) : Bool := !b
def nodesB (n : Int) : Bool := inB 1 n 16
/-- a link: From, To, Rate, Share, Far, Most, Room, Fifo. -/
abbrev Lk := Int × Int × Int × Int × Int × Int × Int × Int
def fr (x : Lk) : Int := x.1
def tw (x : Lk) : Int := x.2.1
def rt (x : Lk) : Int := x.2.2.1
def sh (x : Lk) : Int := x.2.2.2.1
def fa (x : Lk) : Int := x.2.2.2.2.1
def mo (x : Lk) : Int := x.2.2.2.2.2.1
def ro (x : Lk) : Int := x.2.2.2.2.2.2.1
def fi (x : Lk) : Int := x.2.2.2.2.2.2.2
/-- its cells. -/
def linkV (x : Lk) : List Value := [.int .i64 (fr x), .int .i64 (tw x), .int .i64 (rt x), .int .i64 (sh x), .int .i64 (fa x), .int .i64 (mo x), .int .i64 (ro x), .int .i64 (fi x)]
theorem linkV_len (x : Lk) : (linkV x).length = 8 := rfl
theorem linkV_one (x : Lk) : ∀ u ∈ linkV x, u.oneCell' = true := fun u hu => by
  simp [linkV] at hu
  rcases hu with rfl | rfl | rfl | rfl | rfl | rfl | rfl | rfl <;> rfl
theorem lk_eta (x : Lk) : x = (fr x, tw x, rt x, sh x, fa x, mo x, ro x, fi x) := rfl
/-- the k-th of what a link must be, in a map of n nodes. -/
def mustB (n : Int) (x : Lk) : Nat → Bool
  | 0 => inB 0 (fr x) (n - 1) | 1 => inB 0 (tw x) (n - 1) | 2 => neB (fr x) (tw x) | 3 => inB 1 (rt x) 1000000 | 4 => inB 0 (sh x) (rt x) | 5 => inB 0 (fa x) 1000 | 6 => inB 1 (mo x) 2000 | 7 => inB 0 (ro x) 1000000000 | _ => inB 0 (fi x) 1000000
/-- may a link be in a map of n nodes. -/
def rightB (n : Int) (x : Lk) : Bool := nodesB n && (mustB n x 0 && (mustB n x 1 && (mustB n x 2 && (mustB n x 3 && (mustB n x 4 && (mustB n x 5 && (mustB n x 6 && (mustB n x 7 && mustB n x 8))))))))
theorem rightB_musts (n : Int) (x : Lk) : rightB n x = true ↔ nodesB n = true ∧ ∀ k, k < 9 → mustB n x k = true := by
  unfold rightB
  simp only [Bool.and_eq_true]
  constructor
  · rintro ⟨h, h0, h1, h2, h3, h4, h5, h6, h7, h8⟩
    refine ⟨h, fun k hk => ?_⟩
    match k, hk with
    | 0, _ => exact h0
    | 1, _ => exact h1
    | 2, _ => exact h2
    | 3, _ => exact h3
    | 4, _ => exact h4
    | 5, _ => exact h5
    | 6, _ => exact h6
    | 7, _ => exact h7
    | 8, _ => exact h8
  · rintro ⟨h, hk⟩
    exact ⟨h, hk 0 (by omega), hk 1 (by omega), hk 2 (by omega), hk 3 (by omega), hk 4 (by omega), hk 5 (by omega), hk 6 (by omega), hk 7 (by omega), hk 8 (by omega)⟩
theorem rightB_iff (n : Int) (x : Lk) : rightB n x = true ↔ (1 ≤ n ∧ n ≤ 16) ∧ (0 ≤ fr x ∧ fr x ≤ n - 1) ∧ (0 ≤ tw x ∧ tw x ≤ n - 1) ∧ fr x ≠ tw x ∧ (1 ≤ rt x ∧ rt x ≤ 1000000) ∧ (0 ≤ sh x ∧ sh x ≤ rt x) ∧ (0 ≤ fa x ∧ fa x ≤ 1000) ∧ (1 ≤ mo x ∧ mo x ≤ 2000) ∧ (0 ≤ ro x ∧ ro x ≤ 1000000000) ∧ (0 ≤ fi x ∧ fi x ≤ 1000000) := by
  unfold rightB nodesB mustB
  simp only [Bool.and_eq_true, inB_iff, neB_iff]

theorem isFromI_any (a n b : Int) (w : World) : Calls Tryz.prog 39 #[.int .i64 a, .int .i64 n, .int .i64 b] w fun e w' => e = .returned (.bool (inB a n b)) ∧ w = w' := by
  by_cases h1 : a ≤ n
  · have e1 : inB a n b = decide (n ≤ b) := by simp [inB, h1]
    rw [e1]
    clear e1
    go_enter Tryz.func39, Tryz.ntmps39
    go_wp2
    go_ret
    exact ⟨by simp, rfl⟩
  · have e1 : inB a n b = false := by simp [inB, h1]
    have h2 : decide (a ≤ n) = false := decide_eq_false h1
    rw [e1]
    clear e1
    go_enter Tryz.func39, Tryz.ntmps39
    go_wp2
    go_ret
    exact ⟨by simp, rfl⟩
theorem isFromL_any (a n b : Int) (w : World) : Calls Tryz.prog 96 #[.int .i64 a, .int .i64 n, .int .i64 b] w fun e w' => e = .returned (.bool (inB a n b)) ∧ w = w' := by
  by_cases h1 : a ≤ n
  · have e1 : inB a n b = decide (n ≤ b) := by simp [inB, h1]
    rw [e1]
    clear e1
    go_enter Tryz.func96, Tryz.ntmps96
    go_wp2
    go_ret
    exact ⟨by simp, rfl⟩
  · have e1 : inB a n b = false := by simp [inB, h1]
    have h2 : decide (a ≤ n) = false := decide_eq_false h1
    rw [e1]
    clear e1
    go_enter Tryz.func96, Tryz.ntmps96
    go_wp2
    go_ret
    exact ⟨by simp, rfl⟩
theorem isNodes_any (n : Int) (w : World) : Calls Tryz.prog 62 #[.int .i64 n] w fun e w' => e = .returned (.bool (nodesB n)) ∧ w = w' := by
  have c := hidd (fun W => isFromI_any 1 n 16 W)
  unfold nodesB
  generalize inB 1 n 16 = B at *
  go_enter Tryz.func62, Tryz.ntmps62
  go_wp2_with fail
  refine (c.out _).mono ?_
  rintro e w' ⟨rfl, rfl⟩
  go_wp2_with fail
  go_ret
  exact ⟨rfl, rfl⟩
theorem has_any (n x : Int) (h1 : 1 ≤ n) (h2 : n ≤ 16) (w : World) : Calls Tryz.prog 92 #[.agg #[.int .i64 n], .int .i64 x] w fun e w' => e = .returned (.bool (inB 0 x (n - 1))) ∧ Below w.heap.size w w' := by
  have c := hidd (fun W => isFromI_any 0 x (n - 1) W)
  generalize inB 0 x (n - 1) = B at *
  go_enter Tryz.func92, Tryz.ntmps92
  go_wp2_with fail
  refine (c.out _).mono ?_
  rintro e w' ⟨rfl, rfl⟩
  go_wp2_with fail
  go_ret
  exact ⟨rfl, by (repeat' (first | (with_reducible exact Below.refl _ _) | (with_reducible assumption) | (with_reducible apply Below.setCell) | (with_reducible apply Below.alloc) | (with_reducible apply Below.drew) | (with_reducible apply below_drewN) | (with_reducible refine Below.trans ?_ (Below.mono (by assumption) ?_)) | omega | (simp; done) | (simp; omega)))⟩
theorem unless_any (b : Bool) (n : Int) (w : World) : Calls Tryz.prog 61 #[.bool b, .int .i64 n] w fun e w' => e = .returned (.int .i64 (if b = true then 0 else n)) ∧ w = w' := by
  cases b
  all_goals
    go_enter Tryz.func61, Tryz.ntmps61
    go_wp2_with fail
    go_ret
    exact ⟨by first | rfl | simp, rfl⟩
theorem endsOf_any (a0 a1 a2 a3 a4 a5 a6 a7 : Int) (w : World) : Calls Tryz.prog 65 #[.agg #[.int .i64 a0, .int .i64 a1, .int .i64 a2, .int .i64 a3, .int .i64 a4, .int .i64 a5, .int .i64 a6, .int .i64 a7]] w fun e w' => e = .returned (.agg #[.int .i64 a0, .int .i64 a1]) ∧ Below w.heap.size w w' := by
  go_enter Tryz.func65, Tryz.ntmps65
  go_wp2_with fail
  exact bodyPost_ret (v := .agg #[.int .i64 a0, .int .i64 a1]) (by simp [results, Tryz.results65, go_sem]) rfl ⟨rfl, by (repeat' (first | (with_reducible exact Below.refl _ _) | (with_reducible assumption) | (with_reducible apply Below.setCell) | (with_reducible apply Below.alloc) | (with_reducible apply Below.drew) | (with_reducible apply below_drewN) | (with_reducible refine Below.trans ?_ (Below.mono (by assumption) ?_)) | omega | (simp; done) | (simp; omega)))⟩
theorem turned_any (a b : Int) (w : World) : Calls Tryz.prog 66 #[.agg #[.int .i64 a, .int .i64 b]] w fun e w' => e = .returned (.agg #[.int .i64 b, .int .i64 a]) ∧ Below w.heap.size w w' := by
  go_enter Tryz.func66, Tryz.ntmps66
  go_wp2_with fail
  exact bodyPost_ret (v := .agg #[.int .i64 b, .int .i64 a]) (by simp [results, Tryz.results66, go_sem]) rfl ⟨rfl, by (repeat' (first | (with_reducible exact Below.refl _ _) | (with_reducible assumption) | (with_reducible apply Below.setCell) | (with_reducible apply Below.alloc) | (with_reducible apply Below.drew) | (with_reducible apply below_drewN) | (with_reducible refine Below.trans ?_ (Below.mono (by assumption) ?_)) | omega | (simp; done) | (simp; omega)))⟩
theorem must0_any (a0 a1 a2 a3 a4 a5 a6 a7 n : Int) (h1 : 1 ≤ n) (h2 : n ≤ 16) (w : World) : Calls Tryz.prog 91 #[.agg #[.int .i64 a0, .int .i64 a1, .int .i64 a2, .int .i64 a3, .int .i64 a4, .int .i64 a5, .int .i64 a6, .int .i64 a7], .agg #[.int .i64 n]] w fun e w' => e = .returned (.bool (inB 0 a0 (n - 1))) ∧ Below w.heap.size w w' := by
  have c := hidd (fun W => has_any n a0 h1 h2 W)
  generalize inB 0 a0 (n - 1) = B at *
  go_enter Tryz.func91, Tryz.ntmps91
  go_wp2_with fail
  refine (c.out _).mono ?_
  rintro e w' ⟨rfl, hb⟩
  go_wp2_with fail
  go_ret
  exact ⟨rfl, by (repeat' (first | (with_reducible exact Below.refl _ _) | (with_reducible assumption) | (with_reducible apply Below.setCell) | (with_reducible apply Below.alloc) | (with_reducible apply Below.drew) | (with_reducible apply below_drewN) | (with_reducible refine Below.trans ?_ (Below.mono (by assumption) ?_)) | omega | (simp; done) | (simp; omega)))⟩
theorem must1_any (a0 a1 a2 a3 a4 a5 a6 a7 n : Int) (h1 : 1 ≤ n) (h2 : n ≤ 16) (w : World) : Calls Tryz.prog 93 #[.agg #[.int .i64 a0, .int .i64 a1, .int .i64 a2, .int .i64 a3, .int .i64 a4, .int .i64 a5, .int .i64 a6, .int .i64 a7], .agg #[.int .i64 n]] w fun e w' => e = .returned (.bool (inB 0 a1 (n - 1))) ∧ Below w.heap.size w w' := by
  have c := hidd (fun W => has_any n a1 h1 h2 W)
  generalize inB 0 a1 (n - 1) = B at *
  go_enter Tryz.func93, Tryz.ntmps93
  go_wp2_with fail
  refine (c.out _).mono ?_
  rintro e w' ⟨rfl, hb⟩
  go_wp2_with fail
  go_ret
  exact ⟨rfl, by (repeat' (first | (with_reducible exact Below.refl _ _) | (with_reducible assumption) | (with_reducible apply Below.setCell) | (with_reducible apply Below.alloc) | (with_reducible apply Below.drew) | (with_reducible apply below_drewN) | (with_reducible refine Below.trans ?_ (Below.mono (by assumption) ?_)) | omega | (simp; done) | (simp; omega)))⟩
theorem must2_any (a0 a1 a2 a3 a4 a5 a6 a7 n : Int) (w : World) : Calls Tryz.prog 94 #[.agg #[.int .i64 a0, .int .i64 a1, .int .i64 a2, .int .i64 a3, .int .i64 a4, .int .i64 a5, .int .i64 a6, .int .i64 a7], .agg #[.int .i64 n]] w fun e w' => e = .returned (.bool (neB a0 a1)) ∧ Below w.heap.size w w' := by
  unfold neB
  go_enter Tryz.func94, Tryz.ntmps94
  go_wp2_with fail
  go_ret
  exact ⟨by first | rfl | simp, by (repeat' (first | (with_reducible exact Below.refl _ _) | (with_reducible assumption) | (with_reducible apply Below.setCell) | (with_reducible apply Below.alloc) | (with_reducible apply Below.drew) | (with_reducible apply below_drewN) | (with_reducible refine Below.trans ?_ (Below.mono (by assumption) ?_)) | omega | (simp; done) | (simp; omega)))⟩
theorem must3_any (a0 a1 a2 a3 a4 a5 a6 a7 n : Int) (w : World) : Calls Tryz.prog 95 #[.agg #[.int .i64 a0, .int .i64 a1, .int .i64 a2, .int .i64 a3, .int .i64 a4, .int .i64 a5, .int .i64 a6, .int .i64 a7], .agg #[.int .i64 n]] w fun e w' => e = .returned (.bool (inB 1 a2 1000000)) ∧ Below w.heap.size w w' := by
  have c := hidd (fun W => isFromL_any 1 a2 1000000 W)
  generalize inB 1 a2 1000000 = B at *
  go_enter Tryz.func95, Tryz.ntmps95
  go_wp2_with fail
  refine (c.out _).mono ?_
  rintro e w' ⟨rfl, rfl⟩
  go_wp2_with fail
  go_ret
  exact ⟨rfl, by (repeat' (first | (with_reducible exact Below.refl _ _) | (with_reducible assumption) | (with_reducible apply Below.setCell) | (with_reducible apply Below.alloc) | (with_reducible apply Below.drew) | (with_reducible apply below_drewN) | (with_reducible refine Below.trans ?_ (Below.mono (by assumption) ?_)) | omega | (simp; done) | (simp; omega)))⟩
theorem must4_any (a0 a1 a2 a3 a4 a5 a6 a7 n : Int) (w : World) : Calls Tryz.prog 97 #[.agg #[.int .i64 a0, .int .i64 a1, .int .i64 a2, .int .i64 a3, .int .i64 a4, .int .i64 a5, .int .i64 a6, .int .i64 a7], .agg #[.int .i64 n]] w fun e w' => e = .returned (.bool (inB 0 a3 a2)) ∧ Below w.heap.size w w' := by
  have c := hidd (fun W => isFromL_any 0 a3 a2 W)
  generalize inB 0 a3 a2 = B at *
  go_enter Tryz.func97, Tryz.ntmps97
  go_wp2_with fail
  refine (c.out _).mono ?_
  rintro e w' ⟨rfl, rfl⟩
  go_wp2_with fail
  go_ret
  exact ⟨rfl, by (repeat' (first | (with_reducible exact Below.refl _ _) | (with_reducible assumption) | (with_reducible apply Below.setCell) | (with_reducible apply Below.alloc) | (with_reducible apply Below.drew) | (with_reducible apply below_drewN) | (with_reducible refine Below.trans ?_ (Below.mono (by assumption) ?_)) | omega | (simp; done) | (simp; omega)))⟩
theorem must5_any (a0 a1 a2 a3 a4 a5 a6 a7 n : Int) (w : World) : Calls Tryz.prog 98 #[.agg #[.int .i64 a0, .int .i64 a1, .int .i64 a2, .int .i64 a3, .int .i64 a4, .int .i64 a5, .int .i64 a6, .int .i64 a7], .agg #[.int .i64 n]] w fun e w' => e = .returned (.bool (inB 0 a4 1000)) ∧ Below w.heap.size w w' := by
  have c := hidd (fun W => isFromL_any 0 a4 1000 W)
  generalize inB 0 a4 1000 = B at *
  go_enter Tryz.func98, Tryz.ntmps98
  go_wp2_with fail
  refine (c.out _).mono ?_
  rintro e w' ⟨rfl, rfl⟩
  go_wp2_with fail
  go_ret
  exact ⟨rfl, by (repeat' (first | (with_reducible exact Below.refl _ _) | (with_reducible assumption) | (with_reducible apply Below.setCell) | (with_reducible apply Below.alloc) | (with_reducible apply Below.drew) | (with_reducible apply below_drewN) | (with_reducible refine Below.trans ?_ (Below.mono (by assumption) ?_)) | omega | (simp; done) | (simp; omega)))⟩
theorem must6_any (a0 a1 a2 a3 a4 a5 a6 a7 n : Int) (w : World) : Calls Tryz.prog 99 #[.agg #[.int .i64 a0, .int .i64 a1, .int .i64 a2, .int .i64 a3, .int .i64 a4, .int .i64 a5, .int .i64 a6, .int .i64 a7], .agg #[.int .i64 n]] w fun e w' => e = .returned (.bool (inB 1 a5 2000)) ∧ Below w.heap.size w w' := by
  have c := hidd (fun W => isFromL_any 1 a5 2000 W)
  generalize inB 1 a5 2000 = B at *
  go_enter Tryz.func99, Tryz.ntmps99
  go_wp2_with fail
  refine (c.out _).mono ?_
  rintro e w' ⟨rfl, rfl⟩
  go_wp2_with fail
  go_ret
  exact ⟨rfl, by (repeat' (first | (with_reducible exact Below.refl _ _) | (with_reducible assumption) | (with_reducible apply Below.setCell) | (with_reducible apply Below.alloc) | (with_reducible apply Below.drew) | (with_reducible apply below_drewN) | (with_reducible refine Below.trans ?_ (Below.mono (by assumption) ?_)) | omega | (simp; done) | (simp; omega)))⟩
theorem must7_any (a0 a1 a2 a3 a4 a5 a6 a7 n : Int) (w : World) : Calls Tryz.prog 100 #[.agg #[.int .i64 a0, .int .i64 a1, .int .i64 a2, .int .i64 a3, .int .i64 a4, .int .i64 a5, .int .i64 a6, .int .i64 a7], .agg #[.int .i64 n]] w fun e w' => e = .returned (.bool (inB 0 a6 1000000000)) ∧ Below w.heap.size w w' := by
  have c := hidd (fun W => isFromL_any 0 a6 1000000000 W)
  generalize inB 0 a6 1000000000 = B at *
  go_enter Tryz.func100, Tryz.ntmps100
  go_wp2_with fail
  refine (c.out _).mono ?_
  rintro e w' ⟨rfl, rfl⟩
  go_wp2_with fail
  go_ret
  exact ⟨rfl, by (repeat' (first | (with_reducible exact Below.refl _ _) | (with_reducible assumption) | (with_reducible apply Below.setCell) | (with_reducible apply Below.alloc) | (with_reducible apply Below.drew) | (with_reducible apply below_drewN) | (with_reducible refine Below.trans ?_ (Below.mono (by assumption) ?_)) | omega | (simp; done) | (simp; omega)))⟩
theorem must8_any (a0 a1 a2 a3 a4 a5 a6 a7 n : Int) (w : World) : Calls Tryz.prog 101 #[.agg #[.int .i64 a0, .int .i64 a1, .int .i64 a2, .int .i64 a3, .int .i64 a4, .int .i64 a5, .int .i64 a6, .int .i64 a7], .agg #[.int .i64 n]] w fun e w' => e = .returned (.bool (inB 0 a7 1000000)) ∧ Below w.heap.size w w' := by
  have c := hidd (fun W => isFromL_any 0 a7 1000000 W)
  generalize inB 0 a7 1000000 = B at *
  go_enter Tryz.func101, Tryz.ntmps101
  go_wp2_with fail
  refine (c.out _).mono ?_
  rintro e w' ⟨rfl, rfl⟩
  go_wp2_with fail
  go_ret
  exact ⟨rfl, by (repeat' (first | (with_reducible exact Below.refl _ _) | (with_reducible assumption) | (with_reducible apply Below.setCell) | (with_reducible apply Below.alloc) | (with_reducible apply Below.drew) | (with_reducible apply below_drewN) | (with_reducible refine Below.trans ?_ (Below.mono (by assumption) ?_)) | omega | (simp; done) | (simp; omega)))⟩
/-- the k-th must's number. -/
def mustF (k : Nat) : Nat := (#[91, 93, 94, 95, 97, 98, 99, 100, 101] : Array Nat).getD k 0
theorem must_enters (k : Nat) (hk : k < 9) : ∀ args w, (callFunc (mustF k) args).run Tryz.prog w = .ok (.enter (mustF k) args) w := by
  intro args w
  match k, hk with
  | 0, _ => simp [mustF, callFunc, Tryz.func91, Tryz.f91, mark]
  | 1, _ => simp [mustF, callFunc, Tryz.func93, Tryz.f93, mark]
  | 2, _ => simp [mustF, callFunc, Tryz.func94, Tryz.f94, mark]
  | 3, _ => simp [mustF, callFunc, Tryz.func95, Tryz.f95, mark]
  | 4, _ => simp [mustF, callFunc, Tryz.func97, Tryz.f97, mark]
  | 5, _ => simp [mustF, callFunc, Tryz.func98, Tryz.f98, mark]
  | 6, _ => simp [mustF, callFunc, Tryz.func99, Tryz.f99, mark]
  | 7, _ => simp [mustF, callFunc, Tryz.func100, Tryz.f100, mark]
  | 8, _ => simp [mustF, callFunc, Tryz.func101, Tryz.f101, mark]
theorem must_any (k : Nat) (hk : k < 9) (a0 a1 a2 a3 a4 a5 a6 a7 n : Int) (h1 : 1 ≤ n) (h2 : n ≤ 16) (w : World) : Calls Tryz.prog (mustF k) #[.agg #[.int .i64 a0, .int .i64 a1, .int .i64 a2, .int .i64 a3, .int .i64 a4, .int .i64 a5, .int .i64 a6, .int .i64 a7], .agg #[.int .i64 n]] w fun e w' => e = .returned (.bool (mustB n (a0, a1, a2, a3, a4, a5, a6, a7) k)) ∧ Below w.heap.size w w' := by
  match k, hk with
  | 0, _ => exact must0_any a0 a1 a2 a3 a4 a5 a6 a7 n h1 h2 w
  | 1, _ => exact must1_any a0 a1 a2 a3 a4 a5 a6 a7 n h1 h2 w
  | 2, _ => exact must2_any a0 a1 a2 a3 a4 a5 a6 a7 n w
  | 3, _ => exact must3_any a0 a1 a2 a3 a4 a5 a6 a7 n w
  | 4, _ => exact must4_any a0 a1 a2 a3 a4 a5 a6 a7 n w
  | 5, _ => exact must5_any a0 a1 a2 a3 a4 a5 a6 a7 n w
  | 6, _ => exact must6_any a0 a1 a2 a3 a4 a5 a6 a7 n w
  | 7, _ => exact must7_any a0 a1 a2 a3 a4 a5 a6 a7 n w
  | 8, _ => exact must8_any a0 a1 a2 a3 a4 a5 a6 a7 n w
/-- the list of musts lies at a block. -/
def MustsAt (w : World) (b : Nat) : Prop := ∀ k, k < 9 → w.cell? ⟨b, k, none⟩ = some (.func (Fn.func (mustF k)) #[] #[])
def MustsEnd (w : World) (e : Ending) (w' : World) : Prop := ∃ b, e = .returned (.slice (some ⟨b, 0, none⟩) 9 9) ∧ w.heap.size ≤ b ∧ b < w'.heap.size ∧ MustsAt w' b ∧ Below w.heap.size w w'
set_option maxHeartbeats 1000000 in
theorem musts_any (w : World) : Calls Tryz.prog 78 #[] w (MustsEnd w) := by
  go_enter Tryz.func78, Tryz.ntmps78
  go_wp2_with fail
  go_ret
  refine ⟨_, rfl, Nat.le_refl _, by simp, ?_, by (repeat' (first | (with_reducible exact Below.refl _ _) | (with_reducible assumption) | (with_reducible apply Below.setCell) | (with_reducible apply Below.alloc) | (with_reducible apply Below.drew) | (with_reducible apply below_drewN) | (with_reducible refine Below.trans ?_ (Below.mono (by assumption) ?_)) | omega | (simp; done) | (simp; omega)))⟩
  intro k hk
  match k, hk with
  | 0, _ | 1, _ | 2, _ | 3, _ | 4, _ | 5, _ | 6, _ | 7, _ | 8, _ => simp [go_sem, mustF]
end Go.Proofs.YtalhbjmhipiiiaaGreat.Tp
