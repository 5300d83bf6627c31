/- The faces Room and Rate, where all is right. -/
import Derived.Test.YtianceglbkcmpaaBdD
namespace Go.Proofs.Ytianceglbkcmpaa
set_option linter.unusedVariables false
open Go.RowKit

def upV (N D : Int) : Int := -(-N / D)
/-- the bound told, and all of it fits. -/
def Told (p r u m l R c d N D : Int) : Prop := (1 ≤ R ∧ R ≤ 1000000) ∧ LateOk p r u m l R c d N D ∧ (-9223372036854775808 ≤ N ∧ N ≤ 9223372036854775807 ∧ D ≤ 9223372036854775807) ∧ rightB N D = true
theorem entersRoom1 : ∀ args w, (callFunc 27 args).run Try.prog w = .ok (.enter 27 args) w := fun args w => by simp [callFunc, Try.func27, Try.f27, mark]
set_option maxRecDepth 100000 in
set_option maxHeartbeats 4000000 in
theorem roomStep (p r u m l R c d N D : Int) (hs : SpecIn p r u m) (hc1 : 0 ≤ c) (hc2 : c ≤ 10000000) (hd1 : 0 ≤ d) (hd2 : d ≤ 1000000) (hok : Told p r u m l R c d N D) (hU0 : 0 ≤ upV N D) (hU1 : u + r * upV N D ≤ 1000000000) (a b e : Nat) (w : World) (ha : AskAt w a b e p r u m l R c d) :
    StepsTo 27 #[.pointer (some ⟨a, 0, none⟩), .pointer (some ⟨b, 0, none⟩), .pointer (some ⟨e, 0, none⟩)] (.returned (.int .i64 (u + r * upV N D))) w := by
  intro W hW
  have hAW := ha.step hW
  have KEEP := hidd (fun W' (hb : Below W.heap.size W W') => (show (W'.cell? ⟨a, 0, none⟩ = some (.int .i64 p) ∧ W'.cell? ⟨a, 1, none⟩ = some (.int .i64 r) ∧ W'.cell? ⟨a, 2, none⟩ = some (.int .i64 u) ∧ W'.cell? ⟨a, 3, none⟩ = some (.int .i64 m) ∧ W'.cell? ⟨a, 4, none⟩ = some (.int .i64 l)) ∧ W'.cell? ⟨b, 0, none⟩ = some (.int .i64 R) ∧ W'.cell? ⟨e, 0, none⟩ = some (.int .i64 c) ∧ W'.cell? ⟨e, 1, none⟩ = some (.int .i64 d) from ⟨((hAW.step hb).1.2), (hAW.step hb).2.1.2, (hAW.step hb).2.2.2.1, (hAW.step hb).2.2.2.2⟩))
  obtain ⟨⟨x0, x1, x2, x3, x4, x5⟩, ⟨y0, y1⟩, z0, z1, z2⟩ := hAW
  obtain ⟨⟨hR1, hR2⟩, hlo, ⟨b1, b2, b3⟩, hrt⟩ := hok
  have cl := hidd (fun W => late_ok p r u m l R c d N D hs hR1 hR2 hc1 hc2 hd1 hd2 hlo W)
  have cu := fun W => up_ok N D b1 b2 b3 hrt W
  have hu2 : -(-N / D) = upV N D := rfl
  rw [hu2] at cu
  obtain ⟨a1, a2, a3, a4, a5, a6, a7⟩ := hs
  have hrU : 0 ≤ r * upV N D := Int.mul_nonneg (by omega) hU0
  obtain ⟨v1, v2⟩ := wrap_both3 (x := r * upV N D) (by omega) (by omega)
  generalize upV N D = U at *
  obtain ⟨V, hV⟩ : ∃ V, r * U = V := ⟨_, rfl⟩
  rw [hV] at hrU hU1 ⊢
  have g1 := v1.trans hV
  have g2 := v2.trans hV
  have g3 : IntKind.i64.wrap (u + V) = u + V := IntWalk.i64_in _ (by omega)
  have hle : decide (u + V ≤ 1000000000) = true := decide_eq_true hU1
  have cu := hidd cu
  clear v1 v2 hV hlo hrt ha hW hu2
  go_enter Try.func27, Try.ntmps27
  go_wp2_with fail
  go_region_held3 (fun w' => (w'.cell? ⟨a, 0, none⟩ = some (.int .i64 p) ∧ w'.cell? ⟨a, 1, none⟩ = some (.int .i64 r) ∧ w'.cell? ⟨a, 2, none⟩ = some (.int .i64 u) ∧ w'.cell? ⟨a, 3, none⟩ = some (.int .i64 m) ∧ w'.cell? ⟨a, 4, none⟩ = some (.int .i64 l)) ∧ w'.cell? ⟨b, 0, none⟩ = some (.int .i64 R) ∧ w'.cell? ⟨e, 0, none⟩ = some (.int .i64 c) ∧ w'.cell? ⟨e, 1, none⟩ = some (.int .i64 d))
    ((first | exact KEEP.out _ cum2 | exact KEEP.out _ cum1 | exact ⟨⟨x1, x2, x3, x4, x5⟩, y1, z1, z2⟩ | go_keep))
    ((first
      | (go_at_call 23; refine (cl.out _).mono ?_; rintro E1 x1' ⟨rfl, l1⟩; have cum1 : Below W.heap.size W x1' := (by first | exact below_step (Below.drew (Below.refl _ _)) l1 | exact below_step (Below.refl _ _) l1))
      | (go_at_call 26; refine (cu.out _).mono ?_; rintro E2 x2' ⟨rfl, l2⟩; have cum2 : Below W.heap.size W x2' := (by first | exact below_step cum1 l2))))
  all_goals go_wp2_with fail
  all_goals (refine (need_yes _ _).mono ?_)
  all_goals rintro E3 w3 ⟨rfl, rfl⟩
  all_goals go_wp2_with fail
  all_goals go_ret
  all_goals exact ⟨rfl, cum2⟩
set_option maxRecDepth 100000 in
set_option maxHeartbeats 4000000 in
theorem Room_ok (p r u m l R c d N D : Int) (hh : hasB p r u m l R c d = true) (hs : SpecIn p r u m) (hc1 : 0 ≤ c) (hc2 : c ≤ 10000000) (hd1 : 0 ≤ d) (hd2 : d ≤ 1000000) (hok : Told p r u m l R c d N D) (hU0 : 0 ≤ upV N D) (hU1 : u + r * upV N D ≤ 1000000000) (w : World) :
    Calls Try.prog 8 #[.agg #[.int .i64 p, .int .i64 r, .int .i64 u, .int .i64 m, .int .i64 l], .int .i64 R, .agg #[.int .i64 c, .int .i64 d]] w fun e w' => e = .returned (.tuple #[.int .i64 (u + r * upV N D), .int .i64 0]) ∧ Below w.heap.size w w' := by
  have hmf : ∀ (fn : Fn) (first cap : Array Value) (w : World), (Instr.makeFunc fn first cap).run Try.prog w = .ok (.func fn first cap) w := fun _ _ _ _ => rfl
  have ch := fun W => hasBound_any p r u m l R c d W
  rw [hh] at ch
  have CH := hidd ch
  have st := hidd (fun a b e W ha => roomStep p r u m l R c d N D hs hc1 hc2 hd1 hd2 hok hU0 hU1 a b e W ha)
  have ka := hidd (ask_new w p r u m l R c d)
  clear ch hh hs hok hU0 hU1
  generalize u + r * upV N D = V at *
  go_enter Try.func8, Try.ntmps8
  go_wp2_with fail
  refine Zp.wp_scope_fwd 0 (fun a' w' => False) rfl ?_ (fun a' w' h => h.elim)
  obtain ⟨⟨x0, x1, x2, x3, x4, x5⟩, ⟨y0, y1⟩, z0, z1, z2⟩ := ka.out
  go_wp2_with fail
  refine (CH.out _).mono ?_
  rintro e w1 ⟨rfl, hb1⟩
  have HA1 := hidd (ka.out.step hb1)
  have HB1 := hidd (below_step (below_new (below_new (below_new (Below.refl w.heap.size w) _) _) _) hb1)
  clear hb1 x0 x1 x2 x3 x4 x5 y0 y1 z0 z1 z2
  go_wp2_with fail
  refine (toldBL_ok _ entersRoom1 _ _ V (st.out _ _ _ _ HA1.out)).mono ?_
  rintro e w2 ⟨rfl, hb2⟩
  have HB2 := hidd (below_step HB1.out hb2)
  clear hb2
  go_wp2_with fail
  (try simp only [Exit.jump])
  go_ret2
  exact ⟨rfl, HB2.out⟩
/-- the search by halves. -/
def search (does : Int → Bool) : Nat → Int → Int → Int
  | 0, lo, _ => lo
  | n + 1, lo, hi => if lo < hi then (if does (lo + (hi - lo) / 2) then search does n lo (lo + (hi - lo) / 2) else search does n (lo + (hi - lo) / 2 + 1) hi) else lo
def searchOk (okk does : Int → Bool) : Nat → Int → Int → Bool
  | 0, _, _ => true
  | n + 1, lo, hi => if lo < hi then okk (lo + (hi - lo) / 2) && (if does (lo + (hi - lo) / 2) then searchOk okk does n lo (lo + (hi - lo) / 2) else searchOk okk does n (lo + (hi - lo) / 2 + 1) hi) else true
set_option maxRecDepth 100000 in
set_option maxHeartbeats 4000000 in
theorem least_any (K : Nat) (cap : Array Value) (he : ∀ args w, (callFunc K args).run Try.prog w = .ok (.enter K args) w) (does okk : Int → Bool) (lo hi : Int) (n : Nat) (h1 : 1 ≤ lo) (h2 : lo ≤ hi) (h3 : hi ≤ 1000000) (hn : hi - lo < n) (w : World)
    (cs : ∀ R, okk R = true → 1 ≤ R → R ≤ 1000000 → ∀ W, Below w.heap.size w W → Calls Try.prog K (#[.int .i64 R] ++ cap) W fun e w' => e = .returned (.bool (does R)) ∧ Below W.heap.size W w')
    (hok : searchOk okk does n lo hi = true) :
    Calls Try.prog 49 #[.int .i64 lo, .int .i64 hi, .func (Fn.func K) #[] cap] w fun e w' => e = .returned (.int .i64 (search does n lo hi)) ∧ Below w.heap.size w w' := by
  have CS := hidd cs
  have HOK := hidd hok
  obtain ⟨X, hX⟩ : ∃ X, search does n lo hi = X := ⟨_, rfl⟩
  rw [hX]
  have HX := hidd hX
  clear hX cs hok
  go_enter Try.func49, Try.ntmps49
  go_wp2_with fail
  go_loopg [0, 1] n (fun g s0 s1 wr => ∃ lo hi : Int, s0 = .int .i64 lo ∧ s1 = .int .i64 hi ∧ (1 ≤ lo ∧ lo ≤ hi ∧ hi ≤ 1000000) ∧ hi - lo < g ∧ search does g lo hi = X ∧ searchOk okk does g lo hi = true ∧ Below w.heap.size w wr)
  case atStart => exact ⟨lo, hi, rfl, rfl, ⟨h1, h2, h3⟩, hn, HX.out, HOK.out, Below.refl _ _⟩
  case round =>
    clear HX HOK h1 h2 h3 hn
    obtain ⟨lo, hi, rfl, rfl, ⟨h1, h2, h3⟩, hg, hX, hok, hB⟩ := hrel
    have HG := hidd hg
    have HB := hidd hB
    by_cases hlt : lo < hi
    · obtain ⟨g, rfl⟩ : ∃ g, gk = g + 1 := ⟨gk - 1, by omega⟩
      unfold search at hX
      unfold searchOk at hok
      rw [if_pos hlt] at hX hok
      have hm : (hi - lo) / 2 ≤ hi - lo - 1 := by omega
      have hm0 : 0 ≤ (hi - lo) / 2 := by omega
      have hd : 0 ≤ hi - lo := by omega
      have ht : (hi - lo).tdiv 2 = (hi - lo) / 2 := Int.tdiv_eq_ediv_of_nonneg (by omega)
      obtain ⟨q, hq⟩ : ∃ q, (hi - lo) / 2 = q := ⟨_, rfl⟩
      rw [hq] at hX hok hm hm0 ht
      rw [Bool.and_eq_true] at hok
      have cc := CS.out (lo + q) hok.1 (by omega) (by omega)
      have HX := hidd hX
      have HO := hidd hok.2
      have HQ := hidd hq
      clear hX hok hg hB hq
      generalize does (lo + q) = B at *
      have CC := hidd cc
      clear cc
      cases B
      · go_wp2_with fail
        refine (CC.out _ HB.out).mono ?_
        rintro e w1 ⟨rfl, hb1⟩
        have HB1 := hidd (below_step HB.out hb1)
        clear hb1
        go_wp2_with fail
        have hg := HG.out
        go_roundg g
        case measure => omega
        case rel => exact ⟨lo + q + 1, hi, by first | rfl | go_num, rfl, ⟨by omega, by omega, by omega⟩, by omega, by have := HX.out; simpa using this, by have := HO.out; simpa using this, HB1.out⟩
      · go_wp2_with fail
        refine (CC.out _ HB.out).mono ?_
        rintro e w1 ⟨rfl, hb1⟩
        have HB1 := hidd (below_step HB.out hb1)
        clear hb1
        go_wp2_with fail
        have hg := HG.out
        go_roundg g
        case measure => omega
        case rel => exact ⟨lo, lo + q, rfl, rfl, ⟨by omega, by omega, by omega⟩, by omega, by have := HX.out; simpa using this, by have := HO.out; simpa using this, HB1.out⟩
    · have HX2 := hidd (show lo = X by
        cases gk with
        | zero => exact hX
        | succ g => unfold search at hX; rw [if_neg hlt] at hX; exact hX)
      clear hX hok hg hB
      go_wp2_with fail
      go_ret
      exact ⟨by rw [HX2.out]; first | rfl | simp, HB.out⟩
def wordB (x : Int) : Bool := decide (-9223372036854775808 ≤ x) && decide (x ≤ 9223372036854775807)
theorem wordB_iff {x : Int} (h : wordB x = true) : -9223372036854775808 ≤ x ∧ x ≤ 9223372036854775807 := by unfold wordB at h; simpa using h
def partA (m c R : Int) : Int × Int × Int := makeR (m + c) R
def partG (p r u m R : Int) : Int × Int × Int := if R < p then makeR ((u - m) * (p - R)) (R * (p - r)) else (0, 1, 0)
def lateF (p r u m c d R : Int) : Int × Int × Int := sumR [((partA m c R).1, (partA m c R).2.1), ((makeR d 1).1, (makeR d 1).2.1), ((partG p r u m R).1, (partG p r u m R).2.1)]
def okF (p r u m c d R : Int) : Bool :=
  (decide (1 ≤ R) && decide (R ≤ 1000000)) && (decide ((partA m c R).2.2 = 0) && decide ((makeR d 1).2.2 = 0) && decide ((partG p r u m R).2.2 = 0) && decide ((lateF p r u m c d R).2.2 = 0)) &&
  (wordB (partA m c R).1 && wordB (partA m c R).2.1 && wordB (makeR d 1).1 && wordB (makeR d 1).2.1 && wordB (partG p r u m R).1 && wordB (partG p r u m R).2.1) && (wordB (lateF p r u m c d R).1 && wordB (lateF p r u m c d R).2.1) && rightB (lateF p r u m c d R).1 (lateF p r u m c d R).2.1
theorem told_of {p r u m l c d R : Int} (h : okF p r u m c d R = true) : Told p r u m l R c d (lateF p r u m c d R).1 (lateF p r u m c d R).2.1 := by
  unfold okF at h
  simp only [Bool.and_eq_true, decide_eq_true_eq] at h
  obtain ⟨⟨⟨⟨⟨h1, h2⟩, ⟨⟨h3, h4⟩, h5⟩, h6⟩, ⟨⟨⟨⟨w1, w2⟩, w3⟩, w4⟩, w5⟩, w6⟩, w7, w8⟩, h7⟩ := h
  refine ⟨⟨h1, h2⟩, ⟨(partA m c R).1, (partA m c R).2.1, (makeR d 1).1, (makeR d 1).2.1, (partG p r u m R).1, (partG p r u m R).2.1, ?_, ?_, ?_, ?_, ?_⟩, ⟨(wordB_iff w7).1, (wordB_iff w7).2, (wordB_iff w8).2⟩, h7⟩
  · rw [← h3]; rfl
  · rw [← h4]
  · unfold partG at h5 ⊢
    by_cases hp : R < p
    · rw [if_pos hp] at h5 ⊢
      exact .inl ⟨hp, by rw [← h5]⟩
    · rw [if_neg hp]
      exact .inr ⟨hp, rfl, rfl⟩
  · rw [← h6]; rfl
  · intro x hx
    simp only [List.mem_cons, List.not_mem_nil, or_false] at hx
    rcases hx with rfl | rfl | rfl
    · exact ⟨(wordB_iff w1).1, (wordB_iff w1).2, (wordB_iff w2).1, (wordB_iff w2).2⟩
    · exact ⟨(wordB_iff w3).1, (wordB_iff w3).2, (wordB_iff w4).1, (wordB_iff w4).2⟩
    · exact ⟨(wordB_iff w5).1, (wordB_iff w5).2, (wordB_iff w6).1, (wordB_iff w6).2⟩
set_option maxRecDepth 100000 in
set_option maxHeartbeats 4000000 in
theorem inTime_any (p r u m l R c d N D T : Int) (hs : SpecIn p r u m) (hc1 : 0 ≤ c) (hc2 : c ≤ 10000000) (hd1 : 0 ≤ d) (hd2 : d ≤ 1000000) (hok : Told p r u m l R c d N D) (a b e : Nat) (W : World) (hAW : AskAt W a b e p r u m l T c d) :
    Calls Try.prog 48 #[.int .i64 R, .pointer (some ⟨a, 0, none⟩), .pointer (some ⟨e, 0, none⟩), .pointer (some ⟨b, 0, none⟩)] W fun E w' => E = .returned (.bool (decide (upV N D ≤ T))) ∧ Below W.heap.size W w' := by
  have KEEP := hidd (fun W' (hb : Below W.heap.size W W') => (show (W'.cell? ⟨a, 0, none⟩ = some (.int .i64 p) ∧ W'.cell? ⟨a, 1, none⟩ = some (.int .i64 r) ∧ W'.cell? ⟨a, 2, none⟩ = some (.int .i64 u) ∧ W'.cell? ⟨a, 3, none⟩ = some (.int .i64 m) ∧ W'.cell? ⟨a, 4, none⟩ = some (.int .i64 l)) ∧ W'.cell? ⟨b, 0, none⟩ = some (.int .i64 T) ∧ W'.cell? ⟨e, 0, none⟩ = some (.int .i64 c) ∧ W'.cell? ⟨e, 1, none⟩ = some (.int .i64 d) from ⟨((hAW.step hb).1.2), (hAW.step hb).2.1.2, (hAW.step hb).2.2.2.1, (hAW.step hb).2.2.2.2⟩))
  obtain ⟨⟨x0, x1, x2, x3, x4, x5⟩, ⟨y0, y1⟩, z0, z1, z2⟩ := hAW
  obtain ⟨⟨hR1, hR2⟩, hlo, ⟨b1, b2, b3⟩, hrt⟩ := hok
  have cl := hidd (fun W => late_ok p r u m l R c d N D hs hR1 hR2 hc1 hc2 hd1 hd2 hlo W)
  have cu := fun W => up_ok N D b1 b2 b3 hrt W
  have hu2 : -(-N / D) = upV N D := rfl
  rw [hu2] at cu
  generalize upV N D = U at *
  have cu := hidd cu
  clear hlo hrt hu2 hs
  go_enter Try.func48, Try.ntmps48
  go_wp2_with fail
  go_region_held3 (fun w' => (w'.cell? ⟨a, 0, none⟩ = some (.int .i64 p) ∧ w'.cell? ⟨a, 1, none⟩ = some (.int .i64 r) ∧ w'.cell? ⟨a, 2, none⟩ = some (.int .i64 u) ∧ w'.cell? ⟨a, 3, none⟩ = some (.int .i64 m) ∧ w'.cell? ⟨a, 4, none⟩ = some (.int .i64 l)) ∧ w'.cell? ⟨b, 0, none⟩ = some (.int .i64 T) ∧ w'.cell? ⟨e, 0, none⟩ = some (.int .i64 c) ∧ w'.cell? ⟨e, 1, none⟩ = some (.int .i64 d))
    ((first | exact KEEP.out _ cum2 | exact KEEP.out _ cum1 | exact ⟨⟨x1, x2, x3, x4, x5⟩, y1, z1, z2⟩ | go_keep))
    ((first
      | (go_at_call 23; refine (cl.out _).mono ?_; rintro E1 x1' ⟨rfl, l1⟩; have cum1 : Below W.heap.size W x1' := (by first | exact below_step (Below.drew (Below.refl _ _)) l1 | exact below_step (Below.refl _ _) l1))
      | (go_at_call 26; refine (cu.out _).mono ?_; rintro E2 x2' ⟨rfl, l2⟩; have cum2 : Below W.heap.size W x2' := (by first | exact below_step cum1 l2))))
  all_goals go_wp2_with fail
  all_goals go_ret
  all_goals exact ⟨by first | rfl | simp, cum2⟩
theorem entersRate11 : ∀ args w, (callFunc 48 args).run Try.prog w = .ok (.enter 48 args) w := fun args w => by simp [callFunc, Try.func48, Try.f48, mark]
theorem entersRate1 : ∀ args w, (callFunc 47 args).run Try.prog w = .ok (.enter 47 args) w := fun args w => by simp [callFunc, Try.func47, Try.f47, mark]
def inTime (p r u m c d T R : Int) : Bool := decide (upV (lateF p r u m c d R).1 (lateF p r u m c d R).2.1 ≤ T)
set_option maxRecDepth 100000 in
set_option maxHeartbeats 4000000 in
theorem rateStep (p r u m l c d T : Int) (hs : SpecIn p r u m) (hc1 : 0 ≤ c) (hc2 : c ≤ 10000000) (hd1 : 0 ≤ d) (hd2 : d ≤ 1000000) (n : Nat) (hn : 1000000 < n) (hk : okF p r u m c d 1000000 = true) (ht : inTime p r u m c d T 1000000 = true)
    (hso : searchOk (okF p r u m c d) (inTime p r u m c d T) n r 1000000 = true) (a b e : Nat) (w : World) (ha : AskAt w a b e p r u m l T c d) :
    StepsTo 47 #[.pointer (some ⟨a, 0, none⟩), .pointer (some ⟨e, 0, none⟩), .pointer (some ⟨b, 0, none⟩)] (.returned (.int .i64 (search (inTime p r u m c d T) n r 1000000))) w := by
  intro W hW
  have hAW := ha.step hW
  have HA := hidd hAW
  have hmf : ∀ (fn : Fn) (first cap : Array Value) (w : World), (Instr.makeFunc fn first cap).run Try.prog w = .ok (.func fn first cap) w := fun _ _ _ _ => rfl
  have hen := entersRate11
  have c1 := fun V (hV : AskAt V a b e p r u m l T c d) => inTime_any p r u m l 1000000 c d _ _ T hs hc1 hc2 hd1 hd2 (told_of hk) a b e V hV
  have ht2 : decide (upV (lateF p r u m c d 1000000).1 (lateF p r u m c d 1000000).2.1 ≤ T) = true := ht
  rw [ht2] at c1
  have C1 := hidd c1
  have cl := hidd (fun V (hV : Below W.heap.size W V) => least_any 48 #[.pointer (some ⟨a, 0, none⟩), .pointer (some ⟨e, 0, none⟩), .pointer (some ⟨b, 0, none⟩)] entersRate11 (inTime p r u m c d T) (okF p r u m c d) r 1000000 n (by have := hs.1; omega) (by have := hs.2.1; have := hs.2.2.1; omega) (by omega) (by have := hs.1; omega) V
    (fun R hR _ _ V' hV' => inTime_any p r u m l R c d _ _ T hs hc1 hc2 hd1 hd2 (told_of hR) a b e V' ((HA.out.step hV).step hV')) hso)
  generalize search (inTime p r u m c d T) n r 1000000 = X at *
  obtain ⟨⟨x0, x1, x2, x3, x4, x5⟩, ⟨y0, y1⟩, z0, z1, z2⟩ := hAW
  clear hk ht ht2 hso hs c1 ha hW
  go_enter Try.func47, Try.ntmps47
  go_wp2_with fail
  refine (C1.out _ HA.out).mono ?_
  rintro E1 w1 ⟨rfl, hb1⟩
  have HA1 := hidd (HA.out.step hb1)
  have HB1 := hidd hb1
  clear hb1 x0 x1 x2 x3 x4 x5 y0 y1 z0 z1 z2
  obtain ⟨⟨x0, x1, x2, x3, x4, x5⟩, ⟨y0, y1⟩, z0, z1, z2⟩ := HA1.out
  go_wp2_with fail
  refine (need_yes _ _).mono ?_
  rintro E2 w2 ⟨rfl, rfl⟩
  go_wp2_with fail
  refine (cl.out _ HB1.out).mono ?_
  rintro E3 w3 ⟨rfl, hb3⟩
  go_wp2_with fail
  go_ret
  exact ⟨rfl, below_step HB1.out hb3⟩
end Go.Proofs.Ytianceglbkcmpaa
