/- The least and the greatest of many fractions. -/
import Derived.Test.YtgeankdimknmiaaRatSu
import Derived.Test.YtgeankdimknmiaaRatPr
namespace Go.Proofs.Ytgeankdimknmiaa
set_option linter.unusedVariables false
open Go.RowKit

/-- of two, x if it is ahead, else a. -/
def pickF (ah : Int × Int → Int × Int → Bool) (a x : Int × Int) : Int × Int × Int := if ah x a then (x.1, x.2, 0) else (a.1, a.2, 0)
theorem pickF_ok (ah : Int × Int → Int × Int → Bool) (a x : Int × Int) : (pickF ah a x).2.2 = 0 := by unfold pickF; split <;> rfl
theorem pickF_in {ah : Int × Int → Int × Int → Bool} {a x : Int × Int} (ha : RightW a) (hx : RightW x) : RightW ((pickF ah a x).1, (pickF ah a x).2.1) := by
  unfold pickF
  split
  · exact hx
  · exact ha
/-- a function value that tells whether x is ahead of a. -/
def AheadBy (K : Nat) (ah : Int × Int → Int × Int → Bool) : Prop :=
  ∀ x a W, RightW x → RightW a → Calls Try.prog K #[.agg #[.int .i64 x.1, .int .i64 x.2], .agg #[.int .i64 a.1, .int .i64 a.2]] W fun e w' => e = .returned (.bool (ah x a)) ∧ Below W.heap.size W w'
set_option maxHeartbeats 1000000 in
theorem first1_any (K : Nat) (ah : Int × Int → Int × Int → Bool) (he : ∀ args w, (callFunc K args).run Try.prog w = .ok (.enter K args) w) (ca : AheadBy K ah) (a x : Int × Int) (ha : RightW a) (hx : RightW x) (p : Nat) (W : World) (hp : p < W.heap.size)
    (hc : W.cell? ⟨p, 0, none⟩ = some (.func (Fn.func K) #[] #[])) :
    Calls Try.prog 71 #[.agg #[.int .i64 a.1, .int .i64 a.2], .agg #[.int .i64 x.1, .int .i64 x.2], .pointer (some ⟨p, 0, none⟩)] W fun e w' => e = endOf (pickF ah a x) ∧ Below W.heap.size W w' := by
  have cb := hidd (fun W => ca x a W hx ha)
  clear ca ha hx
  obtain ⟨a1, a2⟩ := a
  obtain ⟨x1, x2⟩ := x
  dsimp only at cb
  obtain ⟨B, hB⟩ : ∃ B, ah (x1, x2) (a1, a2) = B := ⟨_, rfl⟩
  rw [hB] at cb
  have RE : endOf (pickF ah (a1, a2) (x1, x2)) = .returned (.agg #[.int .i64 (if B then x1 else a1), .int .i64 (if B then x2 else a2)]) := by unfold pickF; rw [hB]; cases B <;> rfl
  have hp1 : p < W.heap.size + 1 := by omega
  have hp2 : p < W.heap.size + 1 + 1 := by omega
  have hq0 : ¬ p = W.heap.size := by omega
  have hq1 : ¬ p = W.heap.size + 1 := by omega
  have hq2 : ¬ p = W.heap.size + 1 + 1 := by omega
  clear hB
  generalize endOf (pickF ah (a1, a2) (x1, x2)) = EE at *
  cases B
  · have RF := hidd (show EE = .returned (.agg #[.int .i64 a1, .int .i64 a2]) from RE)
    clear RE
    go_enter Try.func71, Try.ntmps71
    go_wp2_with fail
    refine (cb.out _).mono ?_
    rintro E w1 ⟨rfl, hb⟩
    obtain ⟨bc, bf⟩ := bcell hb
    have z : W.heap.size + 1 + 1 < w1.heap.size := by have := hb.size; simp at this; omega
    go_wp2_with fail
    exact bodyPost_ret (v := .agg #[.int .i64 a1, .int .i64 a2]) (by simp [results, Try.results71, go_sem, *]) rfl ⟨RF.out.symm, by (repeat' (first | (with_reducible exact Below.refl _ _) | (with_reducible assumption) | (with_reducible apply Below.setCell) | (with_reducible apply Below.alloc) | (with_reducible apply Below.drew) | (with_reducible apply below_drewN) | (with_reducible refine Below.trans ?_ (Below.mono (by assumption) ?_)) | omega | (simp; done) | (simp; omega)))⟩
  · have RF := hidd (show EE = .returned (.agg #[.int .i64 x1, .int .i64 x2]) from RE)
    clear RE
    go_enter Try.func71, Try.ntmps71
    go_wp2_with fail
    refine (cb.out _).mono ?_
    rintro E w1 ⟨rfl, hb⟩
    obtain ⟨bc, bf⟩ := bcell hb
    have z : W.heap.size + 1 + 1 < w1.heap.size := by have := hb.size; simp at this; omega
    go_wp2_with fail
    exact bodyPost_ret (v := .agg #[.int .i64 x1, .int .i64 x2]) (by simp [results, Try.results71, go_sem, *]) rfl ⟨RF.out.symm, by (repeat' (first | (with_reducible exact Below.refl _ _) | (with_reducible assumption) | (with_reducible apply Below.setCell) | (with_reducible apply Below.alloc) | (with_reducible apply Below.drew) | (with_reducible apply below_drewN) | (with_reducible refine Below.trans ?_ (Below.mono (by assumption) ?_)) | omega | (simp; done) | (simp; omega)))⟩
theorem entersF1 : ∀ args w, (callFunc 71 args).run Try.prog w = .ok (.enter 71 args) w := fun args w => by simp [callFunc, Try.func71, Try.f71, mark]
def firstR (ah : Int × Int → Int × Int → Bool) : List (Int × Int) → Int × Int × Int
  | [] => (0, 0, 2)
  | x :: l => foldR (pickF ah) x l
theorem firstR_clean (ah : Int × Int → Int × Int → Bool) : ∀ l, Clean (firstR ah l)
  | [] => fun _ => ⟨rfl, rfl⟩
  | x :: l => foldR_clean (fun a x => fun h => absurd (pickF_ok ah a x) h) l x
theorem foldR_pick_ok (ah : Int × Int → Int × Int → Bool) : ∀ (l : List (Int × Int)) (a : Int × Int), (foldR (pickF ah) a l).2.2 = 0
  | [], a => rfl
  | x :: l, a => by
    unfold foldR
    rw [if_pos (pickF_ok ah a x)]
    exact foldR_pick_ok ah l _
theorem LiesO.tail {w : World} {ad : Addr} {x : Int × Int} {l : List (Int × Int)} (h : LiesO w (some ad) (x :: l)) : LiesO w (some ⟨ad.block, ad.off + 2, none⟩) l := fun _ => by
  obtain ⟨ad', e, hs, hl⟩ := h (by simp)
  obtain rfl : ad = ad' := by injection e
  refine ⟨_, rfl, hs, fun i hi => ?_⟩
  have := hl (i + 1) (by simpa using hi)
  simp only [List.getElem_cons_succ] at this
  have e2 : Addr.add ⟨ad.block, ad.off + 2, none⟩ (i * 2) = ad.add ((i + 1) * 2) := by
    have : (⟨ad.block, ad.off + 2, none⟩ : Addr) = ad.add 2 := rfl
    rw [this, add_of_add]; congr 1; omega
  rw [e2]
  exact this
set_option maxRecDepth 100000 in
set_option maxHeartbeats 4000000 in
theorem first_any (K : Nat) (ah : Int × Int → Int × Int → Bool) (he : ∀ args w, (callFunc K args).run Try.prog w = .ok (.enter K args) w) (ca : AheadBy K ah) (A : Option Addr) (l : List (Int × Int)) (c : Nat) (hw : Words l) (hr : allRight l = true) (hm : l.length ≤ 1000000) (hc : l.length ≤ c) (hcm : c ≤ maxLen) (w : World) (hl : LiesO w A l) :
    Calls Try.prog 49 #[.slice A l.length c, .func (Fn.func K) #[] #[]] w fun e w' => e = endOf (firstR ah l) ∧ Below w.heap.size w w' := by
  unfold maxLen at hcm
  have hmf : ∀ (fn : Fn) (first cap : Array Value) (w : World), (Instr.makeFunc fn first cap).run Try.prog w = .ok (.func fn first cap) w := fun _ _ _ _ => rfl
  cases l with
  | nil =>
    simp only [List.length_nil]
    clear hw hr hm hl ca
    go_enter Try.func49, Try.ntmps49
    go_wp2_with fail
    exact ⟨rfl, rfl, by (repeat' (first | (with_reducible exact Below.refl _ _) | (with_reducible assumption) | (with_reducible apply Below.setCell) | (with_reducible apply Below.alloc) | (with_reducible apply Below.drew) | (with_reducible apply below_drewN) | (with_reducible refine Below.trans ?_ (Below.mono (by assumption) ?_)) | omega | (simp; done) | (simp; omega)))⟩
  | cons x l =>
    obtain ⟨ad, rfl, hb, hll⟩ := hl (by simp)
    have hx0 := hll 0 (by simp)
    have ea : ad.add (0 * 2) = ad := rfl
    rw [ea] at hx0
    simp only [List.getElem_cons_zero] at hx0
    obtain ⟨q0, q1⟩ := hx0
    have hxr := allRight_mem hr hw (x := x) (by simp)
    have hmem : ∀ y ∈ l, RightW y := fun y hy => allRight_mem hr hw (by simp [hy])
    have hll2 := LiesO.tail hl
    have cg := hidd (fun p (A' : Option Addr) (c' : Nat) W (hW : Below w.heap.size w W) (hA : 0 < l.length → A' = some ⟨ad.block, ad.off + 2, none⟩) (hp : p < W.heap.size) (hcell : W.cell? ⟨p, 0, none⟩ = some (.func (Fn.func K) #[] #[])) =>
      gather_any 71 #[.pointer (some ⟨p, 0, none⟩)] entersF1 (pickF ah) RightW A' l c' (by simp at hm; omega) x.1 x.2 W (fun h0 => by rw [hA h0]; exact hll2.below hW h0) hxr
        (fun a y ha hy _ => pickF_in ha (hmem y hy))
        (fun a y ha hy V hV => first1_any K ah he ca a y ha (hmem y hy) p V (Nat.lt_of_lt_of_le hp hV.size) ((hV.cell (p := ⟨p, 0, none⟩) hp).trans hcell)))
    have RE := hidd (show endOf (firstR ah (x :: l)) = .returned (.agg #[.int .i64 (foldR (pickF ah) x l).1, .int .i64 (foldR (pickF ah) x l).2.1]) from endOf_ok _ (foldR_pick_ok ah l x))
    have RE2 := hidd (endOf_ok (foldR (pickF ah) x l) (foldR_pick_ok ah l x))
    have ex : (x.1, x.2) = x := rfl
    rw [ex] at cg
    rw [RE2.out] at cg
    simp only [List.length_cons] at hc hm ⊢
    rw [RE.out]
    obtain ⟨n, hn⟩ : ∃ n, l.length = n := ⟨_, rfl⟩
    rw [hn] at cg hc hm ⊢
    have hc1 : (1 : Int) ≤ (c : Int) := by omega
    have hn2 : (1 : Int) ≤ (n : Int) + 1 := by omega
    have hn3 : (n : Int) + 1 ≤ (c : Int) := by omega
    have hn4 : 1 ≤ c := by omega
    have hn5 : n + 1 ≤ c := by omega
    have hn6 : ¬ (n : Int) + 1 = 0 := by omega
    have hn1 : IntKind.i64.wrap ((n : Int) + 1 - 1) = (n : Int) := by rw [IntWalk.i64_in _ (by omega)]; omega
    generalize foldR (pickF ah) x l = r at *
    clear ex hxr hmem hll2 hll ea hl hw hr he ca hn
    generalize x.1 = x1 at *
    generalize x.2 = x2 at *
    have KEEP := hidd (fun W' (hb2 : Below w.heap.size w W') => (⟨(hb2.cell (p := ad) hb).trans q0, (hb2.cell (p := ⟨ad.block, ad.off + 1, none⟩) hb).trans q1⟩ : W'.cell? ad = some (.int .i64 x1) ∧ W'.cell? ⟨ad.block, ad.off + 1, none⟩ = some (.int .i64 x2)))
    by_cases hcc : c = 1
    · obtain rfl : n = 0 := by omega
      subst hcc
      go_enter Try.func49, Try.ntmps49
      go_wp2_with fail
      go_region_held3 (fun w' => w'.cell? ad = some (.int .i64 x1) ∧ w'.cell? ⟨ad.block, ad.off + 1, none⟩ = some (.int .i64 x2)) ((first | exact KEEP.out _ (by (repeat' (first | (with_reducible exact Below.refl _ _) | (with_reducible assumption) | (with_reducible apply Below.setCell) | (with_reducible apply Below.alloc) | (with_reducible apply Below.drew) | (with_reducible apply below_drewN) | (with_reducible refine Below.trans ?_ (Below.mono (by assumption) ?_)) | omega | (simp; done) | (simp; omega)))) | go_keep))
        ((go_at_call 70; refine (cg.out _ _ _ _ (by (repeat' (first | (with_reducible exact Below.refl _ _) | (with_reducible assumption) | (with_reducible apply Below.setCell) | (with_reducible apply Below.alloc) | (with_reducible apply Below.drew) | (with_reducible apply below_drewN) | (with_reducible refine Below.trans ?_ (Below.mono (by assumption) ?_)) | omega | (simp; done) | (simp; omega)))) (by first | (intro h; omega) | (intro _; rfl)) (by (first | omega | (simp; done) | (simp; omega))) (by simp [go_sem])).mono ?_; rintro E w1 ⟨rfl, hb1⟩; obtain ⟨bc, bf⟩ := bcell hb1; have z : w.heap.size + 1 < w1.heap.size := by have := hb1.size; simp at this; omega))
      all_goals go_wp2_with fail
      all_goals exact bodyPost_ret (v := .agg #[.int .i64 r.1, .int .i64 r.2.1]) (by simp [results, Try.results49, go_sem, *]) rfl ⟨rfl, by (repeat' (first | (with_reducible exact Below.refl _ _) | (with_reducible assumption) | (with_reducible apply Below.setCell) | (with_reducible apply Below.alloc) | (with_reducible apply Below.drew) | (with_reducible apply below_drewN) | (with_reducible refine Below.trans ?_ (Below.mono (by assumption) ?_)) | omega | (simp; done) | (simp; omega)))⟩
    · go_enter Try.func49, Try.ntmps49
      go_wp2_with fail
      go_region_held3 (fun w' => w'.cell? ad = some (.int .i64 x1) ∧ w'.cell? ⟨ad.block, ad.off + 1, none⟩ = some (.int .i64 x2)) ((first | exact KEEP.out _ (by (repeat' (first | (with_reducible exact Below.refl _ _) | (with_reducible assumption) | (with_reducible apply Below.setCell) | (with_reducible apply Below.alloc) | (with_reducible apply Below.drew) | (with_reducible apply below_drewN) | (with_reducible refine Below.trans ?_ (Below.mono (by assumption) ?_)) | omega | (simp; done) | (simp; omega)))) | go_keep))
        ((go_at_call 70; refine (cg.out _ _ _ _ (by (repeat' (first | (with_reducible exact Below.refl _ _) | (with_reducible assumption) | (with_reducible apply Below.setCell) | (with_reducible apply Below.alloc) | (with_reducible apply Below.drew) | (with_reducible apply below_drewN) | (with_reducible refine Below.trans ?_ (Below.mono (by assumption) ?_)) | omega | (simp; done) | (simp; omega)))) (by first | (intro h; omega) | (intro _; rfl)) (by (first | omega | (simp; done) | (simp; omega))) (by simp [go_sem])).mono ?_; rintro E w1 ⟨rfl, hb1⟩; obtain ⟨bc, bf⟩ := bcell hb1; have z : w.heap.size + 1 < w1.heap.size := by have := hb1.size; simp at this; omega))
      all_goals go_wp2_with fail
      all_goals exact bodyPost_ret (v := .agg #[.int .i64 r.1, .int .i64 r.2.1]) (by simp [results, Try.results49, go_sem, *]) rfl ⟨rfl, by (repeat' (first | (with_reducible exact Below.refl _ _) | (with_reducible assumption) | (with_reducible apply Below.setCell) | (with_reducible apply Below.alloc) | (with_reducible apply Below.drew) | (with_reducible apply below_drewN) | (with_reducible refine Below.trans ?_ (Below.mono (by assumption) ?_)) | omega | (simp; done) | (simp; omega)))⟩
def lessB (x a : Int × Int) : Bool := decide (ordZ (x.1 * a.2) (a.1 * x.2) < 0)
def LeastR (l : List (Int × Int)) : Int × Int × Int := if allRight l then firstR lessB l else (0, 0, 2)
def moreB (x a : Int × Int) : Bool := decide (0 < ordZ (x.1 * a.2) (a.1 * x.2))
theorem entersGreatest11 : ∀ args w, (callFunc 50 args).run Try.prog w = .ok (.enter 50 args) w := fun args w => by simp [callFunc, Try.func50, Try.f50, mark]
theorem entersGreatest1 : ∀ args w, (callFunc 48 args).run Try.prog w = .ok (.enter 48 args) w := fun args w => by simp [callFunc, Try.func48, Try.f48, mark]
theorem Greatest11_any : AheadBy 50 moreB := fun x a W hx ha => by
  have cb := hidd (fun W => order_any x.1 x.2 a.1 a.2 hx.2.1 hx.2.2.1 hx.2.2.2 ha.2.1 ha.2.2.1 ha.2.2.2 hx.1 ha.1 W)
  unfold moreB
  clear hx ha
  generalize ordZ (x.1 * a.2) (a.1 * x.2) = r at *
  go_enter Try.func50, Try.ntmps50
  go_wp2_with fail
  refine (cb.out _).mono ?_
  rintro E w1 ⟨rfl, hb⟩
  go_wp2_with fail
  go_ret
  exact ⟨rfl, by (repeat' (first | (with_reducible exact Below.refl _ _) | (with_reducible assumption) | (with_reducible apply Below.setCell) | (with_reducible apply Below.alloc) | (with_reducible apply Below.drew) | (with_reducible apply below_drewN) | (with_reducible refine Below.trans ?_ (Below.mono (by assumption) ?_)) | omega | (simp; done) | (simp; omega)))⟩
def GreatestR (l : List (Int × Int)) : Int × Int × Int := if allRight l then firstR moreB l else (0, 0, 2)
set_option maxHeartbeats 1000000 in
theorem GreatestStep (A : Option Addr) (l : List (Int × Int)) (c : Nat) (hw : Words l) (hr : allRight l = true) (hm : l.length ≤ 1000000) (hcl : l.length ≤ c) (hcm : c ≤ maxLen) (p : Nat) (w : World) (hl : LiesO w A l) (hc : w.cell? ⟨p, 0, none⟩ = some (.slice A l.length c)) (hp : p < w.heap.size) :
    StepsTo 48 #[.pointer (some ⟨p, 0, none⟩)] (endOf (firstR moreB l)) w := by
  intro W hW
  have c1 : W.cell? ⟨p, 0, none⟩ = some (.slice A l.length c) := (hW.cell (p := ⟨p, 0, none⟩) hp).trans hc
  have cb := hidd (fun W' (hW' : Below W.heap.size W W') => first_any 50 moreB entersGreatest11 Greatest11_any A l c hw hr hm hcl hcm W' ((hl.below hW).below hW'))
  have hp' : p < W.heap.size := Nat.lt_of_lt_of_le hp hW.size
  generalize l.length = n at *
  clear hW hc hp hl hw hr hm hcl hcm
  generalize firstR moreB l = r at *
  by_cases h : r.2.2 = 0
  · have RE := hidd (endOf_ok r h)
    rw [endOf_ok r h] at cb
    clear h
    go_enter Try.func48, Try.ntmps48
    go_wp2_with fail
    refine (cb.out _ (by (repeat' (first | (with_reducible exact Below.refl _ _) | (with_reducible assumption) | (with_reducible apply Below.setCell) | (with_reducible apply Below.alloc) | (with_reducible apply Below.drew) | (with_reducible apply below_drewN) | (with_reducible refine Below.trans ?_ (Below.mono (by assumption) ?_)) | omega | (simp; done) | (simp; omega))))).mono ?_
    rintro E w1 ⟨rfl, hb⟩
    obtain ⟨bc, bf⟩ := bcell hb
    have z : W.heap.size < w1.heap.size := by have := hb.size; simp at this; omega
    go_wp2_with fail
    exact bodyPost_ret (v := .agg #[.int .i64 r.1, .int .i64 r.2.1]) (by simp [results, Try.results48, go_sem, *]) rfl ⟨RE.out.symm, by (repeat' (first | (with_reducible exact Below.refl _ _) | (with_reducible assumption) | (with_reducible apply Below.setCell) | (with_reducible apply Below.alloc) | (with_reducible apply Below.drew) | (with_reducible apply below_drewN) | (with_reducible refine Below.trans ?_ (Below.mono (by assumption) ?_)) | omega | (simp; done) | (simp; omega)))⟩
  · have RE := hidd (endOf_no r h)
    rw [endOf_no r h] at cb
    clear h
    go_enter Try.func48, Try.ntmps48
    go_wp2_with fail
    refine (cb.out _ (by (repeat' (first | (with_reducible exact Below.refl _ _) | (with_reducible assumption) | (with_reducible apply Below.setCell) | (with_reducible apply Below.alloc) | (with_reducible apply Below.drew) | (with_reducible apply below_drewN) | (with_reducible refine Below.trans ?_ (Below.mono (by assumption) ?_)) | omega | (simp; done) | (simp; omega))))).mono ?_
    rintro E w1 ⟨rfl, hb⟩
    go_wp2_with fail
    exact ⟨rfl, RE.out.symm, by (repeat' (first | (with_reducible exact Below.refl _ _) | (with_reducible assumption) | (with_reducible apply Below.setCell) | (with_reducible apply Below.alloc) | (with_reducible apply Below.drew) | (with_reducible apply below_drewN) | (with_reducible refine Below.trans ?_ (Below.mono (by assumption) ?_)) | omega | (simp; done) | (simp; omega)))⟩
set_option maxHeartbeats 1000000 in
theorem Greatest_any (A : Option Addr) (l : List (Int × Int)) (c : Nat) (hw : Words l) (hm : l.length ≤ 1000000) (hcl : l.length ≤ c) (hcm : c ≤ maxLen) (w : World) (hl : LiesO w A l) :
    Calls Try.prog 31 #[.slice A l.length c] w fun E w' => E = .returned (pairOf (GreatestR l)) ∧ Below w.heap.size w w' := by
  have hmf : ∀ (fn : Fn) (first cap : Array Value) (w : World), (Instr.makeFunc fn first cap).run Try.prog w = .ok (.func fn first cap) w := fun _ _ _ _ => rfl
  have cl := hidd (fun W (hb : Below w.heap.size w W) => looks_list A l c hw hm W (hl.below hb))
  by_cases hr : allRight l = true
  · have cs := hidd (fun p W (hb : Below w.heap.size w W) => GreatestStep A l c hw hr hm hcl hcm p W (hl.below hb))
    have e1 : GreatestR l = firstR moreB l := by simp [GreatestR, hr]
    have hcn := hidd (firstR_clean moreB l)
    rw [hr] at cl
    rw [e1]
    clear hr e1 hl hw hm hcl hcm
    generalize l.length = n at *
    generalize firstR moreB l = r at *
    go_enter Try.func31, Try.ntmps31
    go_wp2_with fail
    refine (toldR_any _ entersGreatest1 _ _ _ r hcn.out (cl.out _ (by (repeat' (first | (with_reducible exact Below.refl _ _) | (with_reducible assumption) | (with_reducible apply Below.setCell) | (with_reducible apply Below.alloc) | (with_reducible apply Below.drew) | (with_reducible apply below_drewN) | (with_reducible refine Below.trans ?_ (Below.mono (by assumption) ?_)) | omega | (simp; done) | (simp; omega))))) (cs.out _ _ (by (repeat' (first | (with_reducible exact Below.refl _ _) | (with_reducible assumption) | (with_reducible apply Below.setCell) | (with_reducible apply Below.alloc) | (with_reducible apply Below.drew) | (with_reducible apply below_drewN) | (with_reducible refine Below.trans ?_ (Below.mono (by assumption) ?_)) | omega | (simp; done) | (simp; omega)))) (by simp [go_sem]) (by (first | omega | (simp; done) | (simp; omega))))).mono ?_
    rintro E w1 ⟨rfl, hb⟩
    unfold pairOf
    obtain ⟨bc, bf⟩ := bcell hb
    have z : w.heap.size + 1 < w1.heap.size := by have := hb.size; simp at this; omega
    go_wp2_with fail
    exact bodyPost_ret (v := .tuple #[.agg #[.int .i64 r.1, .int .i64 r.2.1], .int .i64 r.2.2]) (by simp [results, Try.results31, go_sem, *]) rfl ⟨rfl, by (repeat' (first | (with_reducible exact Below.refl _ _) | (with_reducible assumption) | (with_reducible apply Below.setCell) | (with_reducible apply Below.alloc) | (with_reducible apply Below.drew) | (with_reducible apply below_drewN) | (with_reducible refine Below.trans ?_ (Below.mono (by assumption) ?_)) | omega | (simp; done) | (simp; omega)))⟩
  · have hr' : allRight l = false := by simpa using hr
    have e1 : GreatestR l = (0, 0, 2) := by simp [GreatestR, hr']
    rw [hr'] at cl
    rw [e1]
    clear hr hr' e1 hl hw hm hcl hcm
    generalize l.length = n at *
    go_enter Try.func31, Try.ntmps31
    go_wp2_with fail
    refine (toldR_bad _ _ _ _ (cl.out _ (by (repeat' (first | (with_reducible exact Below.refl _ _) | (with_reducible assumption) | (with_reducible apply Below.setCell) | (with_reducible apply Below.alloc) | (with_reducible apply Below.drew) | (with_reducible apply below_drewN) | (with_reducible refine Below.trans ?_ (Below.mono (by assumption) ?_)) | omega | (simp; done) | (simp; omega)))))).mono ?_
    rintro E w1 ⟨rfl, hb⟩
    obtain ⟨bc, bf⟩ := bcell hb
    have z : w.heap.size + 1 < w1.heap.size := by have := hb.size; simp at this; omega
    go_wp2_with fail
    exact bodyPost_ret (v := .tuple #[.agg #[.int .i64 0, .int .i64 0], .int .i64 2]) (by simp [results, Try.results31, go_sem, *]) rfl ⟨rfl, by (repeat' (first | (with_reducible exact Below.refl _ _) | (with_reducible assumption) | (with_reducible apply Below.setCell) | (with_reducible apply Below.alloc) | (with_reducible apply Below.drew) | (with_reducible apply below_drewN) | (with_reducible refine Below.trans ?_ (Below.mono (by assumption) ?_)) | omega | (simp; done) | (simp; omega)))⟩
end Go.Proofs.Ytgeankdimknmiaa
