/- Texts that the claim hangs on, in one. -/
import Derived.Test.YtokcalmmmfakcaaGreatMgSvA
import Derived.Test.YtokcalmmmfakcaaGreatMgSvB
import Derived.Deep.DeepCutAuto
import Derived.Test.YtokcalmmmfakcaaGreatRows
import Derived.Test.YtokcalmmmfakcaaGreatRatSu
import Derived.Test.YtokcalmmmfakcaaGreatZcA
import Derived.ProofKit
import Derived.OpenShut
import Derived.ChangeSame
import Derived.JoinedOf
import Derived.JoinedAt
import Derived.Carry
import Derived.Deep.Slices
import Derived.Deep.Fields
import Derived.Lib.SmallJoins
import Derived.Laws.Rows
/- What the laws of layer 4 use: told, num, bent, known. -/
namespace Go.Proofs.YtokcalmmmfakcaaGreat
set_option linter.unusedVariables false
open Go.RowKit
theorem told_same4 (x d e : Int) (w : World) : Calls Tryz.prog 14 #[.agg #[.int .i64 x, .int .i64 d], .int .i64 e, .agg #[.int .i64 x, .int .i64 d], .int .i64 e] w fun E w' => E = .returned (.bool true) ∧ Below w.heap.size w w' := by
  have hs := fun w => rat_eq_same x d w
  go_enter Tryz.func14, Tryz.ntmps14
  go_wp2_with fail
  go_ret
  exact ⟨rfl, by (repeat' (first | (with_reducible exact Below.refl _ _) | (with_reducible assumption) | (with_reducible apply Below.setCell) | (with_reducible apply Below.alloc) | (with_reducible apply Below.drew) | (with_reducible apply below_drewN) | (with_reducible refine Below.trans ?_ (Below.mono (by assumption) ?_)) | omega | (simp; done) | (simp; omega)))⟩
set_option maxHeartbeats 2000000 in
theorem num4_any (a b k : Int) (h : NumOk a b k) (w : World) : Calls Tryz.prog 17 #[.agg #[.int .i64 a, .int .i64 b, .int .i64 k]] w fun E w' => E = .returned (.tuple #[.agg #[.int .i64 a, .int .i64 b], .int .i64 k]) ∧ Below w.heap.size w w' := by
  rcases h with ⟨rfl, -⟩ | ⟨hk, rfl, rfl⟩
  · go_enter Tryz.func17, Tryz.ntmps17
    go_wp2_with fail
    exact bodyPost_ret (v := .tuple #[.agg #[.int .i64 a, .int .i64 b], .int .i64 0]) (by simp [results, Tryz.results17, go_sem, *]) rfl ⟨rfl, by (repeat' (first | (with_reducible exact Below.refl _ _) | (with_reducible assumption) | (with_reducible apply Below.setCell) | (with_reducible apply Below.alloc) | (with_reducible apply Below.drew) | (with_reducible apply below_drewN) | (with_reducible refine Below.trans ?_ (Below.mono (by assumption) ?_)) | omega | (simp; done) | (simp; omega)))⟩
  · have hkd : decide (k = 0) = false := decide_eq_false hk
    go_enter Tryz.func17, Tryz.ntmps17
    go_wp2_with (go_region)
    all_goals go_wp2_with fail
    all_goals exact bodyPost_ret (v := .tuple #[.agg #[.int .i64 0, .int .i64 0], .int .i64 k]) (by simp [results, Tryz.results17, go_sem, *]) rfl ⟨rfl, by (repeat' (first | (with_reducible exact Below.refl _ _) | (with_reducible assumption) | (with_reducible apply Below.setCell) | (with_reducible apply Below.alloc) | (with_reducible apply Below.drew) | (with_reducible apply below_drewN) | (with_reducible refine Below.trans ?_ (Below.mono (by assumption) ?_)) | omega | (simp; done) | (simp; omega)))⟩
theorem lie_two (w : World) (b : Nat) (hb : w.heap.size = b) (x y z u : Int) (T : TypeId) : Zp.Lie Zp.sendV 2 (w.alloc (.cells #[.int .i64 x, .int .i64 y, .int .i64 z, .int .i64 u] T)) (w.alloc (.cells #[.int .i64 x, .int .i64 y, .int .i64 z, .int .i64 u] T)).heap.size (some ⟨b, 0, none⟩) [(x, y), (z, u)] := fun _ => by
  subst hb
  refine ⟨_, rfl, by simp, fun i p hp j v hv => ?_⟩
  have h1 := Zp.row_at Zp.sendV_len [(x, y), (z, u)] i p hp j v hv
  have h2 : (#[Value.int .i64 x, .int .i64 y, .int .i64 z, .int .i64 u] : Array Value).toList = Zp.rowOf Zp.sendV [(x, y), (z, u)] := rfl
  rw [← h2, Array.getElem?_toList] at h1
  rw [Zp.add_zero_off]
  have hh : (w.alloc (.cells #[.int .i64 x, .int .i64 y, .int .i64 z, .int .i64 u] T)).heap[w.heap.size]? = some (.cells #[.int .i64 x, .int .i64 y, .int .i64 z, .int .i64 u] T) := World.alloc_heap_new w _
  simp only [World.cell?, hh, Option.isSome_none, Bool.false_eq_true, if_false]
  exact h1
theorem bent_any (w : World) : Calls Tryz.prog 33 #[] w fun E w' => ∃ A, E = .returned (.slice A 2 2) ∧ Zp.Lie Zp.sendV 2 w' w'.heap.size A [(8, 10), (20, 2)] ∧ Below w.heap.size w w' := by
  have H := hidd (lie_two w w.heap.size rfl 8 10 20 2 68)
  go_enter Tryz.func33, Tryz.ntmps33
  go_wp2_with fail
  go_ret
  exact ⟨_, rfl, H.out, by (repeat' (first | (with_reducible exact Below.refl _ _) | (with_reducible assumption) | (with_reducible apply Below.setCell) | (with_reducible apply Below.alloc) | (with_reducible apply Below.drew) | (with_reducible apply below_drewN) | (with_reducible refine Below.trans ?_ (Below.mono (by assumption) ?_)) | omega | (simp; done) | (simp; omega)))⟩
theorem rgt_bent : Zp.RgtC [(8, 10), (20, 2)] := by
  refine ⟨by decide, by unfold Zp.MayAll; decide, by decide, fun i h1 h2 => ?_⟩
  obtain rfl : i = 1 := by simp at h2; omega
  unfold Zp.NrmAt
  exact ⟨by decide, fun h => absurd h (by decide)⟩
set_option maxRecDepth 100000 in
set_option maxHeartbeats 8000000 in
theorem known4_any (w : World) : Calls Tryz.prog 9 #[] w fun e w' => e = .returned (.bool true) ∧ Below w.heap.size w w' := by
  have cn := hidd (fun W => bent_any W)
  have kb := fun (A : Option Addr) (W : World) (hA : Zp.Lie Zp.sendV 2 W W.heap.size A [(8, 10), (20, 2)]) => Bend_any true A [(8, 10), (20, 2)] 2 (by decide) ⟨fun _ => rgt_bent, fun _ => rfl⟩ 4 1 (by decide) W hA
  have e1 : bendM true [(8, 10), (20, 2)] 4 1 = (3, 2, 0) := by decide +kernel
  rw [e1] at kb
  have kd := fun (A : Option Addr) (W : World) (hA : Zp.Lie Zp.sendV 2 W W.heap.size A [(8, 10), (20, 2)]) => Delay_any true A [(8, 10), (20, 2)] 2 (by decide) ⟨fun _ => rgt_bent, fun _ => rfl⟩ 4 1 3 1 (by unfold Word4; decide) W hA
  have e2 : lateM true [(8, 10), (20, 2)] 4 1 3 1 = (29, 4, 0) := by decide +kernel
  rw [e2] at kd
  have kw := fun (A : Option Addr) (W : World) (hA : Zp.Lie Zp.sendV 2 W W.heap.size A [(8, 10), (20, 2)]) => Backlog_any true A [(8, 10), (20, 2)] 2 (by decide) ⟨fun _ => rgt_bent, fun _ => rfl⟩ (by decide) (by simp [maxLen]) 4 1 3 1 (by unfold Word4; decide) W hA
  have e3 : waitM true [(8, 10), (20, 2)] 4 1 3 1 = (26, 1, 0) := by decide +kernel
  rw [e3] at kw
  unfold pairOf at kb kd kw
  dsimp only at kb kd kw
  simp only [List.length_cons, List.length_nil] at kb kd kw
  have c2 := hidd kb
  have c3 := hidd kd
  have c4 := hidd kw
  clear e1 e2 e3 kb kd kw
  have t1 := fun w => rat_eq_same 3 2 w
  have t2 := fun w => rat_eq_same 29 4 w
  have t3 := fun w => rat_eq_same 26 1 w
  have HSV := hidd (HasServ.new w 4 1 3 1 27)
  have HB0 := hidd (show Below w.heap.size w (w.alloc (.cells #[.int .i64 4, .int .i64 1, .int .i64 3, .int .i64 1] 27)) by (repeat' (first | (with_reducible exact Below.refl _ _) | (with_reducible assumption) | (with_reducible apply Below.setCell) | (with_reducible apply Below.alloc) | (with_reducible apply Below.drew) | (with_reducible apply below_drewN) | (with_reducible refine Below.trans ?_ (Below.mono (by assumption) ?_)) | omega | (simp; done) | (simp; omega))))
  go_enter Tryz.func9, Tryz.ntmps9
  go_wp2_with fail
  obtain ⟨dd, ⟨x0, x1⟩, x2, x3⟩ := HSV.out
  have q0 := x0
  have d0 := dd
  have q1 := x1
  have d1 := dd
  have hBw := HB0.out
  have KEEP := hidd (fun (w' : World) (hb : Below (w.alloc (.cells #[.int .i64 4, .int .i64 1, .int .i64 3, .int .i64 1] 27)).heap.size (w.alloc (.cells #[.int .i64 4, .int .i64 1, .int .i64 3, .int .i64 1] 27)) w') => (show w'.cell? ⟨w.heap.size, 0, none⟩ = some (.int .i64 4) ∧ w'.cell? ⟨w.heap.size, 1, none⟩ = some (.int .i64 1) from ⟨(hb.cell (p := ⟨w.heap.size, 0, none⟩) d0).trans q0, (hb.cell (p := ⟨w.heap.size, 1, none⟩) d1).trans q1⟩))
  have OUT := hidd (fun (w' : World) (hb : Below (w.alloc (.cells #[.int .i64 4, .int .i64 1, .int .i64 3, .int .i64 1] 27)).heap.size (w.alloc (.cells #[.int .i64 4, .int .i64 1, .int .i64 3, .int .i64 1] 27)) w') => (show True ∧ True ∧ True ∧ Below w.heap.size w w' from ⟨trivial, trivial, trivial, below_step hBw hb⟩))
  clear dd x0 x1 x2 x3 hBw q0 d0 q1 d1
  obtain ⟨k0, k1⟩ := KEEP.out _ (Below.refl _ _)
  go_cut [2, 3] (fun s1 s2 wx => ∃ q : Nat, s1 = .pointer (some ⟨q, 0, none⟩) ∧ s2 = .int .i64 0 ∧ HasRat wx q 3 2 ∧ Below (w.alloc (.cells #[.int .i64 4, .int .i64 1, .int .i64 3, .int .i64 1] 27)).heap.size (w.alloc (.cells #[.int .i64 4, .int .i64 1, .int .i64 3, .int .i64 1] 27)) wx)
  case first =>
    go_region_held (fun w' => w'.cell? ⟨w.heap.size, 0, none⟩ = some (.int .i64 4) ∧ w'.cell? ⟨w.heap.size, 1, none⟩ = some (.int .i64 1))
      ((first | exact KEEP.out _ cum2 | exact KEEP.out _ cum1 | exact KEEP.out _ (Below.refl _ _) | exact KEEP.out _ (Below.drew (Below.refl _ _)) | exact KEEP.out _ (below_new cum2 _) | exact KEEP.out _ (below_new (below_new cum2 _) _) | exact KEEP.out _ (below_new (Below.drew (Below.refl _ _)) _) | (refine KEEP.out _ ?_; have qq := cum2; (repeat' (first | (with_reducible exact Below.refl _ _) | (with_reducible assumption) | (with_reducible apply Below.setCell) | (with_reducible apply Below.alloc) | (with_reducible apply Below.drew) | (with_reducible apply below_drewN) | (with_reducible refine Below.trans ?_ (Below.mono (by assumption) ?_)) | omega | (simp; done) | (simp; omega))); done) | (refine KEEP.out _ ?_; (repeat' (first | (with_reducible exact Below.refl _ _) | (with_reducible assumption) | (with_reducible apply Below.setCell) | (with_reducible apply Below.alloc) | (with_reducible apply Below.drew) | (with_reducible apply below_drewN) | (with_reducible refine Below.trans ?_ (Below.mono (by assumption) ?_)) | omega | (simp; done) | (simp; omega))); done) | (obtain ⟨j0, j1⟩ := KEEP.out _ cum2; refine ⟨?_, ?_⟩ <;> simp [go_sem, *]; done) | go_keep))
      ((first
        | (go_at_call 33; refine (cn.out _).mono ?_; rintro E1 v1 ⟨A1, rfl, hA1, l1⟩; have cum1 : Below (w.alloc (.cells #[.int .i64 4, .int .i64 1, .int .i64 3, .int .i64 1] 27)).heap.size (w.alloc (.cells #[.int .i64 4, .int .i64 1, .int .i64 3, .int .i64 1] 27)) v1 := (by first | exact below_step (Below.drew (Below.refl _ _)) l1 | exact below_step (Below.refl _ _) l1 | (refine below_step ?_ l1; (repeat' (first | (with_reducible exact Below.refl _ _) | (with_reducible assumption) | (with_reducible apply Below.setCell) | (with_reducible apply Below.alloc) | (with_reducible apply Below.drew) | (with_reducible apply below_drewN) | (with_reducible refine Below.trans ?_ (Below.mono (by assumption) ?_)) | omega | (simp; done) | (simp; omega))))); have cz1 := Below.size cum1; obtain ⟨bc1, bf1⟩ := bcell l1; (try (have ec1p0 : v1.cell? ⟨w.heap.size + 1, 0, none⟩ = some (.int .i64 0) := ?_; rotate_left; focus (refine (bc1 _ _ ?_).trans ?_; all_goals (first | (simp [go_sem]; done) | (simp; omega) | (simp [go_sem, *]; done))))); (try (have ef1p0 : v1.frozen? ⟨w.heap.size + 1, 0, none⟩ = false := ?_; rotate_left; focus (refine (bf1 _ _ ?_).trans ?_; all_goals (first | (simp [go_sem]; done) | (simp; omega) | (simp [go_sem, *]; done))))); (try (have ec1p1 : v1.cell? ⟨w.heap.size + 1, 1, none⟩ = some (.int .i64 0) := ?_; rotate_left; focus (refine (bc1 _ _ ?_).trans ?_; all_goals (first | (simp [go_sem]; done) | (simp; omega) | (simp [go_sem, *]; done))))); (try (have ef1p1 : v1.frozen? ⟨w.heap.size + 1, 1, none⟩ = false := ?_; rotate_left; focus (refine (bf1 _ _ ?_).trans ?_; all_goals (first | (simp [go_sem]; done) | (simp; omega) | (simp [go_sem, *]; done))))); (try (have en1p : ¬ w.heap.size + 1 = v1.heap.size := ?_; rotate_left; focus (have this := Below.size l1; (try simp at this); omega))); (try (have es1p : w.heap.size + 1 < v1.heap.size := ?_; rotate_left; focus (have this := Below.size l1; (try simp at this); omega))); clear bc1 bf1)
        | (go_at_call 15; refine (c2.out A1 _ (by first | exact hA1 | exact hA1.below (by (repeat' (first | (with_reducible exact Below.refl _ _) | (with_reducible assumption) | (with_reducible apply Below.setCell) | (with_reducible apply Below.alloc) | (with_reducible apply Below.drew) | (with_reducible apply below_drewN) | (with_reducible refine Below.trans ?_ (Below.mono (by assumption) ?_)) | omega | (simp; done) | (simp; omega)))))).mono ?_; rintro E2 v2 ⟨rfl, l2⟩; have cum2 : Below (w.alloc (.cells #[.int .i64 4, .int .i64 1, .int .i64 3, .int .i64 1] 27)).heap.size (w.alloc (.cells #[.int .i64 4, .int .i64 1, .int .i64 3, .int .i64 1] 27)) v2 := (by first | exact below_step cum1 l2 | (refine below_step ?_ l2; have qq := cum1; (repeat' (first | (with_reducible exact Below.refl _ _) | (with_reducible assumption) | (with_reducible apply Below.setCell) | (with_reducible apply Below.alloc) | (with_reducible apply Below.drew) | (with_reducible apply below_drewN) | (with_reducible refine Below.trans ?_ (Below.mono (by assumption) ?_)) | omega | (simp; done) | (simp; omega))))); have cz2 := Below.size cum2; obtain ⟨bc2, bf2⟩ := bcell l2; (try (have ec2p0 : v2.cell? ⟨w.heap.size + 1, 0, none⟩ = some (.int .i64 0) := ?_; rotate_left; focus (refine (bc2 _ _ ?_).trans ?_; all_goals (first | (simp [go_sem]; done) | (simp; omega) | (simp [go_sem, *]; done))))); (try (have ef2p0 : v2.frozen? ⟨w.heap.size + 1, 0, none⟩ = false := ?_; rotate_left; focus (refine (bf2 _ _ ?_).trans ?_; all_goals (first | (simp [go_sem]; done) | (simp; omega) | (simp [go_sem, *]; done))))); (try (have ec2p1 : v2.cell? ⟨w.heap.size + 1, 1, none⟩ = some (.int .i64 0) := ?_; rotate_left; focus (refine (bc2 _ _ ?_).trans ?_; all_goals (first | (simp [go_sem]; done) | (simp; omega) | (simp [go_sem, *]; done))))); (try (have ef2p1 : v2.frozen? ⟨w.heap.size + 1, 1, none⟩ = false := ?_; rotate_left; focus (refine (bf2 _ _ ?_).trans ?_; all_goals (first | (simp [go_sem]; done) | (simp; omega) | (simp [go_sem, *]; done))))); (try (have en2p : ¬ w.heap.size + 1 = v2.heap.size := ?_; rotate_left; focus (have this := Below.size l2; (try simp at this); omega))); (try (have es2p : w.heap.size + 1 < v2.heap.size := ?_; rotate_left; focus (have this := Below.size l2; (try simp at this); omega))); (try (have ec2u0 : v2.cell? ⟨v1.heap.size, 0, none⟩ = some (.int .i64 0) := ?_; rotate_left; focus (refine (bc2 _ _ ?_).trans ?_; all_goals (first | (simp [go_sem]; done) | (simp; omega) | (simp [go_sem, *]; done))))); (try (have ef2u0 : v2.frozen? ⟨v1.heap.size, 0, none⟩ = false := ?_; rotate_left; focus (refine (bf2 _ _ ?_).trans ?_; all_goals (first | (simp [go_sem]; done) | (simp; omega) | (simp [go_sem, *]; done))))); (try (have ec2u1 : v2.cell? ⟨v1.heap.size, 1, none⟩ = some (.int .i64 0) := ?_; rotate_left; focus (refine (bc2 _ _ ?_).trans ?_; all_goals (first | (simp [go_sem]; done) | (simp; omega) | (simp [go_sem, *]; done))))); (try (have ef2u1 : v2.frozen? ⟨v1.heap.size, 1, none⟩ = false := ?_; rotate_left; focus (refine (bf2 _ _ ?_).trans ?_; all_goals (first | (simp [go_sem]; done) | (simp; omega) | (simp [go_sem, *]; done))))); (try (have en2u : ¬ v1.heap.size = v2.heap.size := ?_; rotate_left; focus (have this := Below.size l2; (try simp at this); omega))); (try (have es2u : v1.heap.size < v2.heap.size := ?_; rotate_left; focus (have this := Below.size l2; (try simp at this); omega))); clear bc2 bf2)))
    all_goals go_wp2_with fail
    all_goals go_meet
    all_goals exact ⟨_, rfl, rfl, ⟨by simp [go_sem, *], by simp [go_sem, *], by first | (simp; omega) | (simp; done) | omega⟩, by have qq := cum2; (repeat' (first | (with_reducible exact Below.refl _ _) | (with_reducible assumption) | (with_reducible apply Below.setCell) | (with_reducible apply Below.alloc) | (with_reducible apply Below.drew) | (with_reducible apply below_drewN) | (with_reducible refine Below.trans ?_ (Below.mono (by assumption) ?_)) | omega | (simp; done) | (simp; omega)))⟩
  case rest =>
    obtain ⟨qa, rfl, rfl, hQ1, hB1⟩ := hcut
    have HQ1 := hidd hQ1
    have HSV1 := hidd (HSV.out.step hB1)
    have HB1 := hidd (below_step HB0.out hB1)
    clear hQ1 hB1 HSV HB0 KEEP OUT k0 k1
    go_wp2_with fail
    obtain ⟨dd, ⟨x0, x1⟩, x2, x3⟩ := HSV1.out
    have q0 := x0
    have d0 := dd
    have q1 := x1
    have d1 := dd
    have q2 := x2
    have d2 := dd
    have q3 := x3
    have d3 := dd
    have hBw := HB1.out
    have KEEP := hidd (fun (w' : World) (hb : Below wc.heap.size wc w') => (show w'.cell? ⟨w.heap.size, 0, none⟩ = some (.int .i64 4) ∧ w'.cell? ⟨w.heap.size, 1, none⟩ = some (.int .i64 1) ∧ w'.cell? ⟨w.heap.size, 2, none⟩ = some (.int .i64 3) ∧ w'.cell? ⟨w.heap.size, 3, none⟩ = some (.int .i64 1) from ⟨(hb.cell (p := ⟨w.heap.size, 0, none⟩) d0).trans q0, (hb.cell (p := ⟨w.heap.size, 1, none⟩) d1).trans q1, (hb.cell (p := ⟨w.heap.size, 2, none⟩) d2).trans q2, (hb.cell (p := ⟨w.heap.size, 3, none⟩) d3).trans q3⟩))
    have OUT := hidd (fun (w' : World) (hb : Below wc.heap.size wc w') => (show True ∧ True ∧ True ∧ Below w.heap.size w w' from ⟨trivial, trivial, trivial, below_step hBw hb⟩))
    clear dd x0 x1 x2 x3 hBw q0 d0 q1 d1 q2 d2 q3 d3
    obtain ⟨k0, k1, k2, k3⟩ := KEEP.out _ (Below.refl _ _)
    go_cut [4, 5] (fun s1 s2 wx => ∃ q : Nat, s1 = .pointer (some ⟨q, 0, none⟩) ∧ s2 = .int .i64 0 ∧ HasRat wx q 29 4 ∧ Below wc.heap.size wc wx)
    case first =>
      go_region_held (fun w' => w'.cell? ⟨w.heap.size, 0, none⟩ = some (.int .i64 4) ∧ w'.cell? ⟨w.heap.size, 1, none⟩ = some (.int .i64 1) ∧ w'.cell? ⟨w.heap.size, 2, none⟩ = some (.int .i64 3) ∧ w'.cell? ⟨w.heap.size, 3, none⟩ = some (.int .i64 1))
        ((first | exact KEEP.out _ cum2 | exact KEEP.out _ cum1 | exact KEEP.out _ (Below.refl _ _) | exact KEEP.out _ (Below.drew (Below.refl _ _)) | exact KEEP.out _ (below_new cum2 _) | exact KEEP.out _ (below_new (below_new cum2 _) _) | exact KEEP.out _ (below_new (Below.drew (Below.refl _ _)) _) | (refine KEEP.out _ ?_; have qq := cum2; (repeat' (first | (with_reducible exact Below.refl _ _) | (with_reducible assumption) | (with_reducible apply Below.setCell) | (with_reducible apply Below.alloc) | (with_reducible apply Below.drew) | (with_reducible apply below_drewN) | (with_reducible refine Below.trans ?_ (Below.mono (by assumption) ?_)) | omega | (simp; done) | (simp; omega))); done) | (refine KEEP.out _ ?_; (repeat' (first | (with_reducible exact Below.refl _ _) | (with_reducible assumption) | (with_reducible apply Below.setCell) | (with_reducible apply Below.alloc) | (with_reducible apply Below.drew) | (with_reducible apply below_drewN) | (with_reducible refine Below.trans ?_ (Below.mono (by assumption) ?_)) | omega | (simp; done) | (simp; omega))); done) | (obtain ⟨j0, j1, j2, j3⟩ := KEEP.out _ cum2; refine ⟨?_, ?_, ?_, ?_⟩ <;> simp [go_sem, *]; done) | go_keep))
        ((first
          | (go_at_call 33; refine (cn.out _).mono ?_; rintro E1 v1 ⟨A1, rfl, hA1, l1⟩; have cum1 : Below wc.heap.size wc v1 := (by first | exact below_step (Below.drew (Below.refl _ _)) l1 | exact below_step (Below.refl _ _) l1 | (refine below_step ?_ l1; (repeat' (first | (with_reducible exact Below.refl _ _) | (with_reducible assumption) | (with_reducible apply Below.setCell) | (with_reducible apply Below.alloc) | (with_reducible apply Below.drew) | (with_reducible apply below_drewN) | (with_reducible refine Below.trans ?_ (Below.mono (by assumption) ?_)) | omega | (simp; done) | (simp; omega))))); have cz1 := Below.size cum1; obtain ⟨bc1, bf1⟩ := bcell l1; (try (have ec1p0 : v1.cell? ⟨wc.heap.size, 0, none⟩ = some (.int .i64 0) := ?_; rotate_left; focus (refine (bc1 _ _ ?_).trans ?_; all_goals (first | (simp [go_sem]; done) | (simp; omega) | (simp [go_sem, *]; done))))); (try (have ef1p0 : v1.frozen? ⟨wc.heap.size, 0, none⟩ = false := ?_; rotate_left; focus (refine (bf1 _ _ ?_).trans ?_; all_goals (first | (simp [go_sem]; done) | (simp; omega) | (simp [go_sem, *]; done))))); (try (have ec1p1 : v1.cell? ⟨wc.heap.size, 1, none⟩ = some (.int .i64 0) := ?_; rotate_left; focus (refine (bc1 _ _ ?_).trans ?_; all_goals (first | (simp [go_sem]; done) | (simp; omega) | (simp [go_sem, *]; done))))); (try (have ef1p1 : v1.frozen? ⟨wc.heap.size, 1, none⟩ = false := ?_; rotate_left; focus (refine (bf1 _ _ ?_).trans ?_; all_goals (first | (simp [go_sem]; done) | (simp; omega) | (simp [go_sem, *]; done))))); (try (have en1p : ¬ wc.heap.size = v1.heap.size := ?_; rotate_left; focus (have this := Below.size l1; (try simp at this); omega))); (try (have es1p : wc.heap.size < v1.heap.size := ?_; rotate_left; focus (have this := Below.size l1; (try simp at this); omega))); clear bc1 bf1)
          | (go_at_call 10; refine (c3.out A1 _ (by first | exact hA1 | exact hA1.below (by (repeat' (first | (with_reducible exact Below.refl _ _) | (with_reducible assumption) | (with_reducible apply Below.setCell) | (with_reducible apply Below.alloc) | (with_reducible apply Below.drew) | (with_reducible apply below_drewN) | (with_reducible refine Below.trans ?_ (Below.mono (by assumption) ?_)) | omega | (simp; done) | (simp; omega)))))).mono ?_; rintro E2 v2 ⟨rfl, l2⟩; have cum2 : Below wc.heap.size wc v2 := (by first | exact below_step cum1 l2 | (refine below_step ?_ l2; have qq := cum1; (repeat' (first | (with_reducible exact Below.refl _ _) | (with_reducible assumption) | (with_reducible apply Below.setCell) | (with_reducible apply Below.alloc) | (with_reducible apply Below.drew) | (with_reducible apply below_drewN) | (with_reducible refine Below.trans ?_ (Below.mono (by assumption) ?_)) | omega | (simp; done) | (simp; omega))))); have cz2 := Below.size cum2; obtain ⟨bc2, bf2⟩ := bcell l2; (try (have ec2p0 : v2.cell? ⟨wc.heap.size, 0, none⟩ = some (.int .i64 0) := ?_; rotate_left; focus (refine (bc2 _ _ ?_).trans ?_; all_goals (first | (simp [go_sem]; done) | (simp; omega) | (simp [go_sem, *]; done))))); (try (have ef2p0 : v2.frozen? ⟨wc.heap.size, 0, none⟩ = false := ?_; rotate_left; focus (refine (bf2 _ _ ?_).trans ?_; all_goals (first | (simp [go_sem]; done) | (simp; omega) | (simp [go_sem, *]; done))))); (try (have ec2p1 : v2.cell? ⟨wc.heap.size, 1, none⟩ = some (.int .i64 0) := ?_; rotate_left; focus (refine (bc2 _ _ ?_).trans ?_; all_goals (first | (simp [go_sem]; done) | (simp; omega) | (simp [go_sem, *]; done))))); (try (have ef2p1 : v2.frozen? ⟨wc.heap.size, 1, none⟩ = false := ?_; rotate_left; focus (refine (bf2 _ _ ?_).trans ?_; all_goals (first | (simp [go_sem]; done) | (simp; omega) | (simp [go_sem, *]; done))))); (try (have en2p : ¬ wc.heap.size = v2.heap.size := ?_; rotate_left; focus (have this := Below.size l2; (try simp at this); omega))); (try (have es2p : wc.heap.size < v2.heap.size := ?_; rotate_left; focus (have this := Below.size l2; (try simp at this); omega))); (try (have ec2u0 : v2.cell? ⟨v1.heap.size, 0, none⟩ = some (.int .i64 0) := ?_; rotate_left; focus (refine (bc2 _ _ ?_).trans ?_; all_goals (first | (simp [go_sem]; done) | (simp; omega) | (simp [go_sem, *]; done))))); (try (have ef2u0 : v2.frozen? ⟨v1.heap.size, 0, none⟩ = false := ?_; rotate_left; focus (refine (bf2 _ _ ?_).trans ?_; all_goals (first | (simp [go_sem]; done) | (simp; omega) | (simp [go_sem, *]; done))))); (try (have ec2u1 : v2.cell? ⟨v1.heap.size, 1, none⟩ = some (.int .i64 0) := ?_; rotate_left; focus (refine (bc2 _ _ ?_).trans ?_; all_goals (first | (simp [go_sem]; done) | (simp; omega) | (simp [go_sem, *]; done))))); (try (have ef2u1 : v2.frozen? ⟨v1.heap.size, 1, none⟩ = false := ?_; rotate_left; focus (refine (bf2 _ _ ?_).trans ?_; all_goals (first | (simp [go_sem]; done) | (simp; omega) | (simp [go_sem, *]; done))))); (try (have en2u : ¬ v1.heap.size = v2.heap.size := ?_; rotate_left; focus (have this := Below.size l2; (try simp at this); omega))); (try (have es2u : v1.heap.size < v2.heap.size := ?_; rotate_left; focus (have this := Below.size l2; (try simp at this); omega))); clear bc2 bf2)))
      all_goals go_wp2_with fail
      all_goals go_meet
      all_goals exact ⟨_, rfl, rfl, ⟨by simp [go_sem, *], by simp [go_sem, *], by first | (simp; omega) | (simp; done) | omega⟩, by have qq := cum2; (repeat' (first | (with_reducible exact Below.refl _ _) | (with_reducible assumption) | (with_reducible apply Below.setCell) | (with_reducible apply Below.alloc) | (with_reducible apply Below.drew) | (with_reducible apply below_drewN) | (with_reducible refine Below.trans ?_ (Below.mono (by assumption) ?_)) | omega | (simp; done) | (simp; omega)))⟩
    case rest =>
      obtain ⟨qb, rfl, rfl, hQ2, hB2⟩ := hcut
      have HQ2 := hidd hQ2
      have HQ12 := hidd (HQ1.out.step hB2)
      have HSV2 := hidd (HSV1.out.step hB2)
      have HB2 := hidd (below_step HB1.out hB2)
      clear hQ2 hB2 HQ1 HSV1 HB1 KEEP OUT k0 k1 k2 k3
      go_wp2_with fail
      obtain ⟨dd, ⟨x0, x1⟩, x2, x3⟩ := HSV2.out
      have q0 := x0
      have d0 := dd
      have q1 := x1
      have d1 := dd
      have q2 := x2
      have d2 := dd
      have q3 := x3
      have d3 := dd
      have hBw := HB2.out
      have KEEP := hidd (fun (w' : World) (hb : Below wc.heap.size wc w') => (show w'.cell? ⟨w.heap.size, 0, none⟩ = some (.int .i64 4) ∧ w'.cell? ⟨w.heap.size, 1, none⟩ = some (.int .i64 1) ∧ w'.cell? ⟨w.heap.size, 2, none⟩ = some (.int .i64 3) ∧ w'.cell? ⟨w.heap.size, 3, none⟩ = some (.int .i64 1) from ⟨(hb.cell (p := ⟨w.heap.size, 0, none⟩) d0).trans q0, (hb.cell (p := ⟨w.heap.size, 1, none⟩) d1).trans q1, (hb.cell (p := ⟨w.heap.size, 2, none⟩) d2).trans q2, (hb.cell (p := ⟨w.heap.size, 3, none⟩) d3).trans q3⟩))
      have OUT := hidd (fun (w' : World) (hb : Below wc.heap.size wc w') => (show True ∧ True ∧ True ∧ Below w.heap.size w w' from ⟨trivial, trivial, trivial, below_step hBw hb⟩))
      clear dd x0 x1 x2 x3 hBw q0 d0 q1 d1 q2 d2 q3 d3
      obtain ⟨k0, k1, k2, k3⟩ := KEEP.out _ (Below.refl _ _)
      go_cut [6, 7] (fun s1 s2 wx => ∃ q : Nat, s1 = .pointer (some ⟨q, 0, none⟩) ∧ s2 = .int .i64 0 ∧ HasRat wx q 26 1 ∧ Below wc.heap.size wc wx)
      case first =>
        go_region_held (fun w' => w'.cell? ⟨w.heap.size, 0, none⟩ = some (.int .i64 4) ∧ w'.cell? ⟨w.heap.size, 1, none⟩ = some (.int .i64 1) ∧ w'.cell? ⟨w.heap.size, 2, none⟩ = some (.int .i64 3) ∧ w'.cell? ⟨w.heap.size, 3, none⟩ = some (.int .i64 1))
          ((first | exact KEEP.out _ cum2 | exact KEEP.out _ cum1 | exact KEEP.out _ (Below.refl _ _) | exact KEEP.out _ (Below.drew (Below.refl _ _)) | exact KEEP.out _ (below_new cum2 _) | exact KEEP.out _ (below_new (below_new cum2 _) _) | exact KEEP.out _ (below_new (Below.drew (Below.refl _ _)) _) | (refine KEEP.out _ ?_; have qq := cum2; (repeat' (first | (with_reducible exact Below.refl _ _) | (with_reducible assumption) | (with_reducible apply Below.setCell) | (with_reducible apply Below.alloc) | (with_reducible apply Below.drew) | (with_reducible apply below_drewN) | (with_reducible refine Below.trans ?_ (Below.mono (by assumption) ?_)) | omega | (simp; done) | (simp; omega))); done) | (refine KEEP.out _ ?_; (repeat' (first | (with_reducible exact Below.refl _ _) | (with_reducible assumption) | (with_reducible apply Below.setCell) | (with_reducible apply Below.alloc) | (with_reducible apply Below.drew) | (with_reducible apply below_drewN) | (with_reducible refine Below.trans ?_ (Below.mono (by assumption) ?_)) | omega | (simp; done) | (simp; omega))); done) | (obtain ⟨j0, j1, j2, j3⟩ := KEEP.out _ cum2; refine ⟨?_, ?_, ?_, ?_⟩ <;> simp [go_sem, *]; done) | go_keep))
          ((first
            | (go_at_call 33; refine (cn.out _).mono ?_; rintro E1 v1 ⟨A1, rfl, hA1, l1⟩; have cum1 : Below wc.heap.size wc v1 := (by first | exact below_step (Below.drew (Below.refl _ _)) l1 | exact below_step (Below.refl _ _) l1 | (refine below_step ?_ l1; (repeat' (first | (with_reducible exact Below.refl _ _) | (with_reducible assumption) | (with_reducible apply Below.setCell) | (with_reducible apply Below.alloc) | (with_reducible apply Below.drew) | (with_reducible apply below_drewN) | (with_reducible refine Below.trans ?_ (Below.mono (by assumption) ?_)) | omega | (simp; done) | (simp; omega))))); have cz1 := Below.size cum1; obtain ⟨bc1, bf1⟩ := bcell l1; (try (have ec1p0 : v1.cell? ⟨wc.heap.size, 0, none⟩ = some (.int .i64 0) := ?_; rotate_left; focus (refine (bc1 _ _ ?_).trans ?_; all_goals (first | (simp [go_sem]; done) | (simp; omega) | (simp [go_sem, *]; done))))); (try (have ef1p0 : v1.frozen? ⟨wc.heap.size, 0, none⟩ = false := ?_; rotate_left; focus (refine (bf1 _ _ ?_).trans ?_; all_goals (first | (simp [go_sem]; done) | (simp; omega) | (simp [go_sem, *]; done))))); (try (have ec1p1 : v1.cell? ⟨wc.heap.size, 1, none⟩ = some (.int .i64 0) := ?_; rotate_left; focus (refine (bc1 _ _ ?_).trans ?_; all_goals (first | (simp [go_sem]; done) | (simp; omega) | (simp [go_sem, *]; done))))); (try (have ef1p1 : v1.frozen? ⟨wc.heap.size, 1, none⟩ = false := ?_; rotate_left; focus (refine (bf1 _ _ ?_).trans ?_; all_goals (first | (simp [go_sem]; done) | (simp; omega) | (simp [go_sem, *]; done))))); (try (have en1p : ¬ wc.heap.size = v1.heap.size := ?_; rotate_left; focus (have this := Below.size l1; (try simp at this); omega))); (try (have es1p : wc.heap.size < v1.heap.size := ?_; rotate_left; focus (have this := Below.size l1; (try simp at this); omega))); clear bc1 bf1)
            | (go_at_call 11; refine (c4.out A1 _ (by first | exact hA1 | exact hA1.below (by (repeat' (first | (with_reducible exact Below.refl _ _) | (with_reducible assumption) | (with_reducible apply Below.setCell) | (with_reducible apply Below.alloc) | (with_reducible apply Below.drew) | (with_reducible apply below_drewN) | (with_reducible refine Below.trans ?_ (Below.mono (by assumption) ?_)) | omega | (simp; done) | (simp; omega)))))).mono ?_; rintro E2 v2 ⟨rfl, l2⟩; have cum2 : Below wc.heap.size wc v2 := (by first | exact below_step cum1 l2 | (refine below_step ?_ l2; have qq := cum1; (repeat' (first | (with_reducible exact Below.refl _ _) | (with_reducible assumption) | (with_reducible apply Below.setCell) | (with_reducible apply Below.alloc) | (with_reducible apply Below.drew) | (with_reducible apply below_drewN) | (with_reducible refine Below.trans ?_ (Below.mono (by assumption) ?_)) | omega | (simp; done) | (simp; omega))))); have cz2 := Below.size cum2; obtain ⟨bc2, bf2⟩ := bcell l2; (try (have ec2p0 : v2.cell? ⟨wc.heap.size, 0, none⟩ = some (.int .i64 0) := ?_; rotate_left; focus (refine (bc2 _ _ ?_).trans ?_; all_goals (first | (simp [go_sem]; done) | (simp; omega) | (simp [go_sem, *]; done))))); (try (have ef2p0 : v2.frozen? ⟨wc.heap.size, 0, none⟩ = false := ?_; rotate_left; focus (refine (bf2 _ _ ?_).trans ?_; all_goals (first | (simp [go_sem]; done) | (simp; omega) | (simp [go_sem, *]; done))))); (try (have ec2p1 : v2.cell? ⟨wc.heap.size, 1, none⟩ = some (.int .i64 0) := ?_; rotate_left; focus (refine (bc2 _ _ ?_).trans ?_; all_goals (first | (simp [go_sem]; done) | (simp; omega) | (simp [go_sem, *]; done))))); (try (have ef2p1 : v2.frozen? ⟨wc.heap.size, 1, none⟩ = false := ?_; rotate_left; focus (refine (bf2 _ _ ?_).trans ?_; all_goals (first | (simp [go_sem]; done) | (simp; omega) | (simp [go_sem, *]; done))))); (try (have en2p : ¬ wc.heap.size = v2.heap.size := ?_; rotate_left; focus (have this := Below.size l2; (try simp at this); omega))); (try (have es2p : wc.heap.size < v2.heap.size := ?_; rotate_left; focus (have this := Below.size l2; (try simp at this); omega))); (try (have ec2u0 : v2.cell? ⟨v1.heap.size, 0, none⟩ = some (.int .i64 0) := ?_; rotate_left; focus (refine (bc2 _ _ ?_).trans ?_; all_goals (first | (simp [go_sem]; done) | (simp; omega) | (simp [go_sem, *]; done))))); (try (have ef2u0 : v2.frozen? ⟨v1.heap.size, 0, none⟩ = false := ?_; rotate_left; focus (refine (bf2 _ _ ?_).trans ?_; all_goals (first | (simp [go_sem]; done) | (simp; omega) | (simp [go_sem, *]; done))))); (try (have ec2u1 : v2.cell? ⟨v1.heap.size, 1, none⟩ = some (.int .i64 0) := ?_; rotate_left; focus (refine (bc2 _ _ ?_).trans ?_; all_goals (first | (simp [go_sem]; done) | (simp; omega) | (simp [go_sem, *]; done))))); (try (have ef2u1 : v2.frozen? ⟨v1.heap.size, 1, none⟩ = false := ?_; rotate_left; focus (refine (bf2 _ _ ?_).trans ?_; all_goals (first | (simp [go_sem]; done) | (simp; omega) | (simp [go_sem, *]; done))))); (try (have en2u : ¬ v1.heap.size = v2.heap.size := ?_; rotate_left; focus (have this := Below.size l2; (try simp at this); omega))); (try (have es2u : v1.heap.size < v2.heap.size := ?_; rotate_left; focus (have this := Below.size l2; (try simp at this); omega))); clear bc2 bf2)))
        all_goals go_wp2_with fail
        all_goals go_meet
        all_goals exact ⟨_, rfl, rfl, ⟨by simp [go_sem, *], by simp [go_sem, *], by first | (simp; omega) | (simp; done) | omega⟩, by have qq := cum2; (repeat' (first | (with_reducible exact Below.refl _ _) | (with_reducible assumption) | (with_reducible apply Below.setCell) | (with_reducible apply Below.alloc) | (with_reducible apply Below.drew) | (with_reducible apply below_drewN) | (with_reducible refine Below.trans ?_ (Below.mono (by assumption) ?_)) | omega | (simp; done) | (simp; omega)))⟩
      case rest =>
        obtain ⟨qc, rfl, rfl, hQ3, hB3⟩ := hcut
        have HB3 := hidd (below_step HB2.out hB3)
        obtain ⟨a0, a1, a2⟩ := HQ12.out.step hB3
        obtain ⟨b0, b1, b2⟩ := HQ2.out.step hB3
        obtain ⟨c0, c1, c2'⟩ := hQ3
        clear hB3 HQ12 HQ2 HSV2 HB2 KEEP OUT k0 k1 k2 k3
        go_wp2_with fail
        go_ret
        exact ⟨by first | rfl | simp, by have q := HB3.out; (repeat' (first | (with_reducible exact Below.refl _ _) | (with_reducible assumption) | (with_reducible apply Below.setCell) | (with_reducible apply Below.alloc) | (with_reducible apply Below.drew) | (with_reducible apply below_drewN) | (with_reducible refine Below.trans ?_ (Below.mono (by assumption) ?_)) | omega | (simp; done) | (simp; omega)))⟩
end Go.Proofs.YtokcalmmmfakcaaGreat

/- The row's frame: arguments are opened to numbers and lists; behind a call that made new memory alone each reads as it did. -/
namespace Go.Proofs.YtokcalmmmfakcaaGreat
namespace RowK
open Go.ChangeShapes Go.WideShapes Go.ChangeAt Go.RowKit Go.Joins Go.Deep

theorem own : ownKnob Tryz.prog.godebug = none := by kernel_rfl
theorem laidOut : laidOutB Tryz.prog = true := by kernel_rfl
theorem i64_bounds {n : Int} (h : (Lit.int .i64 n).wf = true) : -9223372036854775808 ≤ n ∧ n ≤ 9223372036854775807 := by
  simp only [Lit.wf, Bool.and_eq_true, decide_eq_true_eq] at h
  have a : IntKind.i64.min = -9223372036854775808 := rfl
  have b : IntKind.i64.max = 9223372036854775807 := rfl
  omega
section
variable {H : Type} {enc : TypeId × Value → H} {P : Program}
theorem all_stays (hl : laidOutB P = true) {W W' : World} (hb : Below W.heap.size W W') : ∀ {ts : List TypeId} {vs : List Value} {ds : List (DataW H)} {ps : List MemPlace},
    (∀ t ∈ ts, P.readableRec t = true ∧ t < P.types.size) → DataW.TrodAll enc P W 0 (fun _ => true) true ts vs ds ps → (∀ x ∈ ps, x.block < W.heap.size) → ∀ sp : Nat → Bool, (∀ x ∈ ps, sp x.block = true) → DataW.TrodAll enc P W' 0 sp true ts vs ds ps
  | [], vs, ds, ps, _, h, _, sp, _ => by
    obtain ⟨rfl, rfl, rfl⟩ := trodAll_nil h
    exact trodAll_mk0
  | t :: ts, vs, ds, ps, hr, h, hlt, sp, hsp => by
    obtain ⟨v, vs', d, ds', p, p', rfl, rfl, rfl, h0, h1⟩ := trodAll_cons h
    refine trodAll_cons_mk (WideElems.Trod_stays hl (hr t (by simp)).1 (hr t (by simp)).2 h0 (fun x hx => hb.same (hlt x (by simp [hx]))) (fun x hx => hsp x (by simp [hx]))) ?_
    exact all_stays hl hb (fun t ht => hr t (by simp [ht])) h1 (fun x hx => hlt x (by simp [hx])) sp (fun x hx => hsp x (by simp [hx]))

theorem post_law {f : Func} {s : ChangeSpec} {apart fresh handsOn again : Bool} {W W' : World} {args : Array Value} {v : Value} {ds gs : List (DataW H)} {before pv : List MemPlace}
    (hl : laidOutB P = true) (hr : ∀ t ∈ f.params.toList, P.readableRec t = true ∧ t < P.types.size)
    (hW : DataW.Whole enc P f.params.toList s.vars apart W args.toList ds gs (before ++ pv))
    (hA : DataW.TrodAll enc P W 0 (fun _ => true) true f.params.toList args.toList ds before)
    (hs : (s.fn H (ds ++ gs)).args = ds)
    (hres : ∀ (b : Nat) (sp : Nat → Bool) (hd : Bool), DataW.TrodAll enc P W' b sp hd f.resultTypes.toList (v.resultList f.resultTypes.size) (s.fn H (ds ++ gs)).results [])
    (hvars : ∀ sp : Nat → Bool, DataW.TrodVars enc P W' sp s.vars (s.fn H (ds ++ gs)).vars pv)
    (hb : Below W.heap.size W W')
    (hok : ∀ (j : Nat) (t : TypeId) (r : Value), f.resultTypes[j]? = some t → (v.resultList f.resultTypes.size)[j]? = some r → Value.okWide P W' .any 0 t r) :
    s.post enc P f apart fresh handsOn again W args v W' := by
  have hlt : ∀ p ∈ before ++ pv, p.block < W.heap.size := fun p hp => hW.lt p hp
  have hargs : ∀ sp : Nat → Bool, (∀ p ∈ before ++ pv, sp p.block = true) → DataW.TrodAll enc P W' 0 sp true f.params.toList args.toList (s.fn H (ds ++ gs)).args before := fun sp hsp => by
    rw [hs]
    exact all_stays hl hb hr hA (fun x hx => hlt x (by simp [hx])) sp (fun x hx => hsp x (by simp [hx]))
  have hold : ∀ p ∈ before ++ pv, (fun b => decide (b < W.heap.size)) p.block = true := fun p hp => by simpa using hlt p hp
  refine ⟨ds, gs, before ++ pv, [], before, pv, hW, hres _ _ _, hargs _ hold, hvars _, World.keptBut_mono (fun p hp => ⟨hp, ?_⟩) (hb.frame (· ∈ before ++ pv)), fun _ => ?_⟩
  · rw [List.mem_append] at hp
    exact Or.inr hp
  · obtain ⟨_, _, _, _, _, hz, hn⟩ := hW
    refine ⟨hok, _, _, ([] ++ before) ++ pv, ⟨[] ++ before, pv, trodAll_append (hargs _ (fun _ _ => rfl)) (hres _ _ _), hvars _, rfl, ?_, ?_⟩, ?_⟩
    · intro b off hp
      have hin : MemPlace.cell b off ∈ before ++ pv := by simpa using hp
      rw [hb.frozen (hlt _ hin)]
      exact hz b off hin
    · intro ha
      have := hn ha
      simpa using this
    · intro p hp _
      simpa using hp
end

section
variable {H : Type} {enc : TypeId × Value → H} {P : Program} {w : World} {base : Nat} {spare : Nat → Bool} {held : Bool}
theorem open_slice_fields {t e : TypeId} {fs : Array Field} {fuel : Nat} {cs : List Value} {x : DataW H × List MemPlace} (ht : P.underlying t = some (.slice e)) (he : P.underlying e = some (.struct fs))
    (hone : oneCellFields P fs = true) (hC : P.cellsOf e = fs.size) (h : DataW.trod enc P w base spare held fuel t cs = some x) :
    cs = [.slice none 0 0] ∨
    ∃ (a : Addr) (len cap : Nat), cs = [.slice (some a) len cap] ∧ len ≤ cap ∧ cap ≤ maxLen ∧
      ∀ i, i < len → ∀ (j : Nat) (f : Field), fs[j]? = some f → ∃ (v : Value) (n : Nat) (y : DataW H × List MemPlace), w.cell? (a.add (i * fs.size + j)) = some v ∧ DataW.trod enc P w base spare held n f.type [v] = some y := by
  rcases open_slice ht h with h0 | ⟨a, len, cap, m, n, D, Pl, hcs, hb, hl, hm, hmm, hx, hi⟩
  · exact .inl h0.1
  · refine .inr ⟨a, len, cap, hcs, hl, hm, fun i hil j f hj => ?_⟩
    have him : i < m := by rw [hmm]; split <;> omega
    obtain ⟨cs', hc, ht'⟩ := hi i him
    rw [hC] at hc
    obtain ⟨ys, n', hn', hy, hlen, hyl, hf⟩ := DataW.trod_struct he ht'
    obtain ⟨_, hcl, hat⟩ := World.cells?_some hc
    obtain ⟨ho, hk⟩ := hone_of hone j f hj
    have hjl : j < fs.size := (Array.getElem?_eq_some_iff.1 hj).1
    have hcell := hat j hjl
    have hv : cs'[j]? = some (cs'[j]'(by omega)) := List.getElem?_eq_getElem (by omega)
    have h1 := hf j f hj
    rw [ho, hk] at h1
    have hone' : (cs'.drop j).take 1 = [cs'[j]'(by omega)] := by
      rw [List.drop_eq_getElem_cons (by omega)]
      rfl
    rw [hone'] at h1
    have hys : ys[j]? = some (ys[j]'(by omega)) := List.getElem?_eq_getElem (by omega)
    refine ⟨_, n', _, ?_, h1.trans hys⟩
    rw [← Go.Deep.add_add, hcell, hv]
theorem list_of {α : Type} {Q : Nat → α → Prop} : ∀ {n : Nat}, (∀ i, i < n → ∃ x, Q i x) → ∃ L : List α, L.length = n ∧ ∀ i x, L[i]? = some x → Q i x
  | 0, _ => ⟨[], rfl, fun i x h => by simp at h⟩
  | n + 1, h => by
    obtain ⟨L, hL, hQ⟩ := list_of (n := n) (fun i hi => h i (by omega))
    obtain ⟨x, hx⟩ := h n (by omega)
    refine ⟨L ++ [x], by simp [hL], fun i y hy => ?_⟩
    rw [List.getElem?_append] at hy
    split at hy
    · exact hQ i y hy
    · have : i = n := by
        have := (List.getElem?_eq_some_iff.1 hy).1
        simp at this
        omega
      subst this
      rw [hL] at hy
      simp at hy
      exact hy ▸ hx
end
section
variable {H : Type} {enc : TypeId × Value → H} {w : World} {base : Nat} {spare : Nat → Bool} {held : Bool}
theorem cellsLine : Tryz.prog.cellsOf 68 = 2 := by kernel_rfl
theorem open_curve {fuel : Nat} {cs : List Value} {x : DataW H × List MemPlace} (h : DataW.trod enc Tryz.prog w base spare held fuel 23 cs = some x) :
    ∃ (A : Option Addr) (L : List (Int × Int)) (c : Nat), cs = [.slice A L.length c] ∧ L.length ≤ c ∧ c ≤ maxLen ∧ Zp.Lie Zp.sendV 2 w w.heap.size A L := by
  rcases open_slice_fields Tryz.underlying23 Tryz.underlying68 (by kernel_rfl) cellsLine h with rfl | ⟨a, len, cap, rfl, hl, hm, hc⟩
  · exact ⟨none, [], 0, rfl, by simp, by simp [maxLen], Zp.Lie.nil⟩
  · obtain ⟨L, rfl, hL⟩ := list_of (α := Int × Int) (Q := fun i x => w.cell? (a.add (i * 2 + 0)) = some (.int .i64 x.1) ∧ w.cell? (a.add (i * 2 + 1)) = some (.int .i64 x.2)) (n := len) (fun i hi => by
      obtain ⟨v0, n0, y0, hv0, ht0⟩ := hc i hi 0 _ rfl
      obtain ⟨v1, n1, y1, hv1, ht1⟩ := hc i hi 1 _ rfl
      obtain ⟨a0, e0, rfl, -⟩ := DataW.trod_int Tryz.underlying2 ht0
      obtain ⟨a1, e1, rfl, -⟩ := DataW.trod_int Tryz.underlying2 ht1
      simp at e0 e1
      subst e0 e1
      exact ⟨(a0, a1), hv0, hv1⟩)
    refine ⟨some a, L, cap, rfl, hl, hm, fun hlen => ⟨a, rfl, ?_, fun i x hx j v hv => ?_⟩⟩
    · have := (hL 0 L[0] (List.getElem?_eq_getElem hlen)).1
      have := World.block_lt_of_cell? _ _ this
      rwa [block_of_add] at this
    · obtain ⟨h0, h1⟩ := hL i x hx
      match j, hv with
      | 0, hv => simp [Zp.sendV] at hv; subst hv; exact h0
      | 1, hv => simp [Zp.sendV] at hv; subst hv; exact h1
      | j + 2, hv => simp [Zp.sendV] at hv
end
section
variable {H : Type} {enc : TypeId × Value → H} {P : Program} {w : World} {base : Nat} {spare : Nat → Bool} {held : Bool}
theorem open_ints2 {r : Reach} {b0 : Nat} {t : TypeId} {f0 f1 : Field} {v : Value} {d : DataW H} {p : List MemPlace} (hs : P.underlying t = some (.struct #[f0, f1])) (hone : oneCellFields P #[f0, f1] = true) (hC : P.cellsOf t = 2)
    (i0 : P.underlying f0.type = some (.int .i64)) (i1 : P.underlying f1.type = some (.int .i64))
    (hv : Value.okWide P w r b0 t v) (h : DataW.Trod enc P w base spare held t v d p) :
    ∃ a0 a1 : Int, v = .agg #[.int .i64 a0, .int .i64 a1] ∧ (-9223372036854775808 ≤ a0 ∧ a0 ≤ 9223372036854775807) ∧ (-9223372036854775808 ≤ a1 ∧ a1 ≤ 9223372036854775807) := by
  obtain ⟨cs, rfl, hsz⟩ := okWide_struct hs hv
  obtain ⟨l⟩ := cs
  match l, hsz.trans hC with
  | [c0, c1], _ =>
    obtain ⟨fuel, hf⟩ := h
    obtain ⟨xs, n, _, hx, _, hlen, hg⟩ := DataW.trod_struct hs hf
    obtain ⟨o0, k0⟩ := hone_of hone 0 f0 rfl
    obtain ⟨o1, k1⟩ := hone_of hone 1 f1 rfl
    match xs, hlen with
    | [y0, y1], _ =>
      have g0 : DataW.trod enc P w base spare held n f0.type [c0] = some y0 := by simpa [Value.cells, o0, k0] using hg 0 f0 rfl
      have g1 : DataW.trod enc P w base spare held n f1.type [c1] = some y1 := by simpa [Value.cells, o1, k1] using hg 1 f1 rfl
      obtain ⟨a0, e0, -, z0⟩ := DataW.trod_int i0 g0
      obtain ⟨a1, e1, -, z1⟩ := DataW.trod_int i1 g1
      simp at e0 e1
      exact ⟨a0, a1, by rw [e0, e1], i64_bounds z0, i64_bounds z1⟩
theorem open_serv {r : Reach} {b0 : Nat} {t : TypeId} {f0 f1 h0 h1 : Field} {v : Value} {d : DataW H} {p : List MemPlace} (hs : P.underlying t = some (.struct #[f0, f1])) (hC : P.cellsOf t = 4)
    (s0 : P.underlying f0.type = some (.struct #[h0, h1])) (s1 : P.underlying f1.type = some (.struct #[h0, h1])) (o0 : f0.offset = 0) (o1 : f1.offset = 2) (k0 : P.cellsOf f0.type = 2) (k1 : P.cellsOf f1.type = 2) (hone : oneCellFields P #[h0, h1] = true)
    (i0 : P.underlying h0.type = some (.int .i64)) (i1 : P.underlying h1.type = some (.int .i64))
    (hv : Value.okWide P w r b0 t v) (h : DataW.Trod enc P w base spare held t v d p) :
    ∃ a0 a1 a2 a3 : Int, v = .agg #[.int .i64 a0, .int .i64 a1, .int .i64 a2, .int .i64 a3] ∧ (((-9223372036854775808 ≤ a0 ∧ a0 ≤ 9223372036854775807) ∧ -9223372036854775808 ≤ a1 ∧ a1 ≤ 9223372036854775807) ∧ (-9223372036854775808 ≤ a2 ∧ a2 ≤ 9223372036854775807) ∧ -9223372036854775808 ≤ a3 ∧ a3 ≤ 9223372036854775807) := by
  obtain ⟨cs, rfl, hsz⟩ := okWide_struct hs hv
  obtain ⟨l⟩ := cs
  match l, hsz.trans hC with
  | [c0, c1, c2, c3], _ =>
    obtain ⟨fuel, hf⟩ := h
    obtain ⟨xs, n, _, hx, _, hlen, hg⟩ := DataW.trod_struct hs hf
    match xs, hlen with
    | [y0, y1], _ =>
      have g0 : DataW.trod enc P w base spare held n f0.type [c0, c1] = some y0 := by simpa [Value.cells, o0, k0] using hg 0 f0 rfl
      have g1 : DataW.trod enc P w base spare held n f1.type [c2, c3] = some y1 := by simpa [Value.cells, o1, k1] using hg 1 f1 rfl
      obtain ⟨p0, q0⟩ := hone_of hone 0 h0 rfl
      obtain ⟨p1, q1⟩ := hone_of hone 1 h1 rfl
      obtain ⟨xa, na, _, _, _, hla, ha⟩ := DataW.trod_struct s0 g0
      obtain ⟨xb, nb, _, _, _, hlb, hb⟩ := DataW.trod_struct s1 g1
      match xa, hla, xb, hlb with
      | [u0, u1], _, [u2, u3], _ =>
        have g0 : DataW.trod enc P w base spare held na h0.type [c0] = some u0 := by simpa [Value.cells, p0, q0] using ha 0 h0 rfl
        have g1 : DataW.trod enc P w base spare held na h1.type [c1] = some u1 := by simpa [Value.cells, p1, q1] using ha 1 h1 rfl
        have g2 : DataW.trod enc P w base spare held nb h0.type [c2] = some u2 := by simpa [Value.cells, p0, q0] using hb 0 h0 rfl
        have g3 : DataW.trod enc P w base spare held nb h1.type [c3] = some u3 := by simpa [Value.cells, p1, q1] using hb 1 h1 rfl
        obtain ⟨a0, e0, -, z0⟩ := DataW.trod_int i0 g0
        obtain ⟨a1, e1, -, z1⟩ := DataW.trod_int i1 g1
        obtain ⟨a2, e2, -, z2⟩ := DataW.trod_int i0 g2
        obtain ⟨a3, e3, -, z3⟩ := DataW.trod_int i1 g3
        simp at e0 e1 e2 e3
        exact ⟨a0, a1, a2, a3, by rw [e0, e1, e2, e3], ⟨i64_bounds z0, (i64_bounds z1).1, (i64_bounds z1).2⟩, i64_bounds z2, (i64_bounds z3).1, (i64_bounds z3).2⟩
end
end RowK
end Go.Proofs.YtokcalmmmfakcaaGreat

/- MinplusServes: what a service and a curve say at a time. -/
namespace Go.Proofs.YtokcalmmmfakcaaGreat
set_option linter.unusedVariables false
open Go.RowKit
theorem HasServ.kq {w w' : World} {b q : Nat} {rn rd ln ld : Int} (h : HasServ w b rn rd ln ld) (hb : Below q w w') (hq : b < q) : HasServ w' b rn rd ln ld :=
  ⟨Nat.lt_of_lt_of_le h.1 hb.size, ⟨(hb.cell (p := ⟨b, 0, none⟩) hq).trans h.2.1.1, (hb.cell (p := ⟨b, 1, none⟩) hq).trans h.2.1.2⟩, (hb.cell (p := ⟨b, 2, none⟩) hq).trans h.2.2.1, (hb.cell (p := ⟨b, 3, none⟩) hq).trans h.2.2.2⟩
theorem HasRat.kq {w w' : World} {b q : Nat} {x d : Int} (h : HasRat w b x d) (hb : Below q w w') (hq : b < q) : HasRat w' b x d :=
  ⟨(hb.cell (p := ⟨b, 0, none⟩) hq).trans h.1, (hb.cell (p := ⟨b, 1, none⟩) hq).trans h.2.1, Nat.lt_of_lt_of_le h.2.2 hb.size⟩
theorem GBox.kq {w w' : World} {b q : Nat} {x y : Int} (h : GBox w b x y) (hb : Below q w w') (hq : b < q) : GBox w' b x y :=
  ⟨Nat.lt_of_lt_of_le h.1 hb.size, (hb.cell (p := ⟨b, 0, none⟩) hq).trans h.2.1, (hb.cell (p := ⟨b, 1, none⟩) hq).trans h.2.2.1, (hb.frozen (p := ⟨b, 0, none⟩) hq).trans h.2.2.2.1, (hb.frozen (p := ⟨b, 1, none⟩) hq).trans h.2.2.2.2⟩
/-- what stands while the law runs. -/
def Srv (w W : World) (a b p q : Nat) (rn rd ln ld n d s1 s2 h1 h2 : Int) : Prop := HasServ W a rn rd ln ld ∧ HasRat W b n d ∧ HasRat W p s1 s2 ∧ HasRat W q h1 h2 ∧ Below w.heap.size w W
theorem Srv.step {w W W' : World} {a b p q : Nat} {rn rd ln ld n d s1 s2 h1 h2 : Int} (h : Srv w W a b p q rn rd ln ld n d s1 s2 h1 h2) (hb : Below W.heap.size W W') : Srv w W' a b p q rn rd ln ld n d s1 s2 h1 h2 :=
  ⟨h.1.step hb, h.2.1.step hb, h.2.2.1.step hb, h.2.2.2.1.step hb, below_step h.2.2.2.2 hb⟩
theorem Srv.past {w W : World} {a b p q : Nat} {rn rd ln ld n d s1 s2 h1 h2 : Int} (h : Srv w W a b p q rn rd ln ld n d s1 s2 h1 h2) (o : Obj) : Srv w (W.alloc o) a b p q rn rd ln ld n d s1 s2 h1 h2 := h.step ((Below.refl _ _).alloc (Nat.le_refl _) o)
theorem Srv.put {w W : World} {a b p q t : Nat} {rn rd ln ld n d s1 s2 h1 h2 : Int} (h : Srv w W a b p q rn rd ln ld n d s1 s2 h1 h2) (ha : a < t) (hb : b < t) (hp : p < t) (hq : q < t) (hw : w.heap.size ≤ t) (x y : Int) : Srv w ((W.setCell ⟨t, 0, none⟩ (.int .i64 x)).setCell ⟨t, 1, none⟩ (.int .i64 y)) a b p q rn rd ln ld n d s1 s2 h1 h2 := by
  have hk : Below t W ((W.setCell ⟨t, 0, none⟩ (.int .i64 x)).setCell ⟨t, 1, none⟩ (.int .i64 y)) := ((Below.refl t W).setCell (Nat.le_refl _) _).setCell (Nat.le_refl _) _
  exact ⟨h.1.kq hk ha, h.2.1.kq hk hb, h.2.2.1.kq hk hp, h.2.2.2.1.kq hk hq, (h.2.2.2.2.setCell (by simpa using hw) _).setCell (by simpa using hw) _⟩
theorem serv_says {rn rd ln ld n d : Int} : servM rn rd ln ld n d = if servB rn rd ln ld && withB n d 2147483647 then servR rn rd ln ld n d else (0, 0, 2) := rfl
set_option maxRecDepth 100000 in
set_option maxHeartbeats 8000000 in
theorem serves_000 (A : Option Addr) (L : List (Int × Int)) (c : Nat) (rn rd ln ld n d : Int) (hc : L.length ≤ c) (hcm : c ≤ maxLen) (hw : Word4 rn rd ln ld) (hn : (-9223372036854775808 ≤ n ∧ n ≤ 9223372036854775807) ∧ -9223372036854775808 ≤ d ∧ d ≤ 9223372036854775807) (hl40 : ¬ L.length > 40) (hS : servB rn rd ln ld = false) (hB : withB n d 2147483647 = false) (hR : false = true ↔ Zp.RgtC L) (w : World) (hl : Zp.Lie Zp.sendV 2 w w.heap.size A L) :
    Calls Tryz.prog 4 #[.slice A L.length c, .agg #[.int .i64 rn, .int .i64 rd, .int .i64 ln, .int .i64 ld], .agg #[.int .i64 n, .int .i64 d]] w fun e w' => e = .returned (.bool true) ∧ Below w.heap.size w w' := by
  have HL := hidd hl
  have ck := hidd (fun W => known4_any W)
  have cAt := fun W => At_any rn rd ln ld n d hw hn W
  have cHi := fun W (h : Zp.Lie Zp.sendV 2 W W.heap.size A L) => High_any false A L c (by omega) hR hc hcm n d hn W h
  have cCh := fun W => minCheck_any rn rd ln ld hw W
  have cRi := fun W => refRight4 rn rd ln ld hw W
  have cBe := fun W => between_any n d 2147483647 hn.1.1 hn.1.2 hn.2.1 hn.2.2 (by decide) (by decide) W
  rw [hS] at cCh cRi
  rw [hB] at cBe
  rw [if_neg (by decide)] at cCh
  have cRc := fun W (h : Zp.Lie Zp.sendV 2 W W.heap.size A L) => Zp.right3_any A L c (by omega) W h
  have eS : servM rn rd ln ld n d = (0, 0, 2) := by unfold servM; rw [hS, hB]; rfl
  rw [eS] at cAt
  clear eS
  have eH : highM false L n d = (0, 0, 2) := by unfold highM; rfl
  rw [eH] at cHi
  clear eH
  unfold pairOf at cAt cHi
  dsimp only at cAt cHi
  have CAT := hidd cAt
  have CHI := hidd cHi
  have CCH := hidd cCh
  have CRI := hidd cRi
  have CBE := hidd cBe
  have CRC := hidd cRc
  have HR := hidd hR
  have T1 := hidd (fun W => told_same4 (0) (0) (2) W)
  have T2 := hidd (fun W => told_same4 (0) (0) (2) W)
  have HS0 := hidd ((HasServ.new w rn rd ln ld 27).step ((Below.refl _ _).alloc (Nat.le_refl _) (.cells #[.int .i64 n, .int .i64 d] 25)))
  have HN0 := hidd (HasRat.new (w.alloc (.cells #[.int .i64 rn, .int .i64 rd, .int .i64 ln, .int .i64 ld] 27)) n d 25)
  have HB0 := hidd (show Below w.heap.size w ((w.alloc (.cells #[.int .i64 rn, .int .i64 rd, .int .i64 ln, .int .i64 ld] 27)).alloc (.cells #[.int .i64 n, .int .i64 d] 25)) by (repeat' (first | (with_reducible exact Below.refl _ _) | (with_reducible assumption) | (with_reducible apply Below.setCell) | (with_reducible apply Below.alloc) | (with_reducible apply Below.drew) | (with_reducible apply below_drewN) | (with_reducible refine Below.trans ?_ (Below.mono (by assumption) ?_)) | omega | (simp; done) | (simp; omega))))
  have h40 : decide ((L.length : Int) > 40) = false := decide_eq_false (by omega)
  clear cAt cHi cCh cRi cBe cRc hl hR hw hn hS hB hl40 hc hcm
  go_enter Tryz.func4, Tryz.ntmps4
  go_wp2_with fail
  refine (CAT.out _).mono ?_
  rintro e w1 ⟨rfl, hb1⟩
  have HS1 := hidd (HS0.out.step hb1)
  have HN1 := hidd (show HasRat w1 (w.heap.size + 1) n d from by have q := HN0.out.step hb1; simpa using q)
  have HB1 := hidd (below_step HB0.out hb1)
  clear HS0 HN0 HB0 hb1
  obtain ⟨n0, n1, n2⟩ := HN1.out
  go_wp2_with fail
  refine (CHI.out _ (HL.out.below (by have q := HB1.out; (repeat' (first | (with_reducible exact Below.refl _ _) | (with_reducible assumption) | (with_reducible apply Below.setCell) | (with_reducible apply Below.alloc) | (with_reducible apply Below.drew) | (with_reducible apply below_drewN) | (with_reducible refine Below.trans ?_ (Below.mono (by assumption) ?_)) | omega | (simp; done) | (simp; omega)))))).mono ?_
  rintro e w2 ⟨rfl, hb2⟩
  have hx2 := hb2.size
  have HX := hidd (show Srv w (w2.alloc (.cells #[.int .i64 (0), .int .i64 (0)] 25)) w.heap.size (w.heap.size + 1) w1.heap.size w2.heap.size rn rd ln ld n d (0) (0) (0) (0) from
    ⟨((HS1.out.step ((Below.refl _ _).alloc (Nat.le_refl _) _)).step hb2).step ((Below.refl _ _).alloc (Nat.le_refl _) _), ((HN1.out.past _).step hb2).past _, ((HasRat.new w1 (0) (0) 25).step hb2).past _, HasRat.new w2 (0) (0) 25, below_new (below_step (below_new HB1.out _) hb2) _⟩)
  clear HS1 HN1 HB1 hb2 n0 n1 n2
  obtain ⟨⟨dd, ⟨q0, q1⟩, q2, q3⟩, -, -, -, hBw⟩ := HX.out
  have d0 := dd
  have d1 := dd
  have d2 := dd
  have d3 := dd
  have KEEP := hidd (fun (w' : World) (hb : Below (w2.alloc (.cells #[.int .i64 (0), .int .i64 (0)] 25)).heap.size (w2.alloc (.cells #[.int .i64 (0), .int .i64 (0)] 25)) w') => (show w'.cell? ⟨w.heap.size, 0, none⟩ = some (.int .i64 rn) ∧ w'.cell? ⟨w.heap.size, 1, none⟩ = some (.int .i64 rd) ∧ w'.cell? ⟨w.heap.size, 2, none⟩ = some (.int .i64 ln) ∧ w'.cell? ⟨w.heap.size, 3, none⟩ = some (.int .i64 ld) from ⟨(hb.cell (p := ⟨w.heap.size, 0, none⟩) d0).trans q0, (hb.cell (p := ⟨w.heap.size, 1, none⟩) d1).trans q1, (hb.cell (p := ⟨w.heap.size, 2, none⟩) d2).trans q2, (hb.cell (p := ⟨w.heap.size, 3, none⟩) d3).trans q3⟩))
  have OUT := hidd (fun (w' : World) (hb : Below (w2.alloc (.cells #[.int .i64 (0), .int .i64 (0)] 25)).heap.size (w2.alloc (.cells #[.int .i64 (0), .int .i64 (0)] 25)) w') => (show True ∧ True ∧ True ∧ Below w.heap.size w w' from ⟨trivial, trivial, trivial, below_step hBw hb⟩))
  clear dd d0 d1 d2 d3 q0 q1 q2 q3 hBw
  obtain ⟨k0, k1, k2, k3⟩ := KEEP.out _ (Below.refl _ _)
  go_wp2_with fail
  go_region_held (fun w' => w'.cell? ⟨w.heap.size, 0, none⟩ = some (.int .i64 rn) ∧ w'.cell? ⟨w.heap.size, 1, none⟩ = some (.int .i64 rd) ∧ w'.cell? ⟨w.heap.size, 2, none⟩ = some (.int .i64 ln) ∧ w'.cell? ⟨w.heap.size, 3, none⟩ = some (.int .i64 ld))
    ((first | exact KEEP.out _ cum2 | exact KEEP.out _ cum1 | exact KEEP.out _ (Below.refl _ _) | exact KEEP.out _ (Below.drew (Below.refl _ _)) | exact KEEP.out _ (below_new cum2 _) | exact KEEP.out _ (below_new (below_new cum2 _) _) | exact KEEP.out _ (below_new (Below.drew (Below.refl _ _)) _) | (refine KEEP.out _ ?_; have qq := cum2; (repeat' (first | (with_reducible exact Below.refl _ _) | (with_reducible assumption) | (with_reducible apply Below.setCell) | (with_reducible apply Below.alloc) | (with_reducible apply Below.drew) | (with_reducible apply below_drewN) | (with_reducible refine Below.trans ?_ (Below.mono (by assumption) ?_)) | omega | (simp; done) | (simp; omega))); done) | (refine KEEP.out _ ?_; (repeat' (first | (with_reducible exact Below.refl _ _) | (with_reducible assumption) | (with_reducible apply Below.setCell) | (with_reducible apply Below.alloc) | (with_reducible apply Below.drew) | (with_reducible apply below_drewN) | (with_reducible refine Below.trans ?_ (Below.mono (by assumption) ?_)) | omega | (simp; done) | (simp; omega))); done) | (obtain ⟨j0, j1, j2, j3⟩ := KEEP.out _ cum2; refine ⟨?_, ?_, ?_, ?_⟩ <;> simp [go_sem, *]; done) | go_keep))
    ((first
      | (go_at_call 20; refine (CCH.out _).mono ?_; rintro E1 v1 ⟨rfl, l1⟩; have cum1 : Below (w2.alloc (.cells #[.int .i64 (0), .int .i64 (0)] 25)).heap.size (w2.alloc (.cells #[.int .i64 (0), .int .i64 (0)] 25)) v1 := (by first | exact below_step (Below.drew (Below.refl _ _)) l1 | exact below_step (Below.refl _ _) l1 | (refine below_step ?_ l1; (repeat' (first | (with_reducible exact Below.refl _ _) | (with_reducible assumption) | (with_reducible apply Below.setCell) | (with_reducible apply Below.alloc) | (with_reducible apply Below.drew) | (with_reducible apply below_drewN) | (with_reducible refine Below.trans ?_ (Below.mono (by assumption) ?_)) | omega | (simp; done) | (simp; omega))))); have cz1 := Below.size cum1)
      | (go_at_call 21; refine (CRI.out _).mono ?_; rintro E2 v2 ⟨rfl, l2⟩; have cum2 : Below (w2.alloc (.cells #[.int .i64 (0), .int .i64 (0)] 25)).heap.size (w2.alloc (.cells #[.int .i64 (0), .int .i64 (0)] 25)) v2 := (by first | exact below_step cum1 l2 | (refine below_step ?_ l2; have qq := cum1; (repeat' (first | (with_reducible exact Below.refl _ _) | (with_reducible assumption) | (with_reducible apply Below.setCell) | (with_reducible apply Below.alloc) | (with_reducible apply Below.drew) | (with_reducible apply below_drewN) | (with_reducible refine Below.trans ?_ (Below.mono (by assumption) ?_)) | omega | (simp; done) | (simp; omega))))); have cz2 := Below.size cum2)))
  have X3 := hidd (HX.out.step cum2)
  clear k0 k1 k2 k3 KEEP OUT HX hx2 cum1 cum2 cz1 cz2 l1 l2
  obtain ⟨⟨-, ⟨m0, m1⟩, m2, m3⟩, ⟨n0, n1, n2⟩, -, -, -⟩ := X3.out
  go_wp2_with fail
  refine (CBE.out _).mono ?_
  rintro e w4 ⟨rfl, hb4⟩
  obtain ⟨⟨z0, -⟩, ⟨-, -, z1⟩, ⟨-, -, z2⟩, ⟨-, -, z3⟩, zb⟩ := X3.out.step hb4
  have z4 := zb.size
  clear zb
  have X4 := hidd ((X3.out.step hb4).past (.cells #[.int .i64 0, .int .i64 0] 25))
  clear m0 m1 m2 m3 n0 n1 n2 X3 hb4
  obtain ⟨⟨-, ⟨m0, m1⟩, m2, m3⟩, ⟨n0, n1, n2⟩, -, -, -⟩ := X4.out
  go_wp2_with fail
  refine (CRI.out _).mono ?_
  rintro e w5 ⟨rfl, hb5⟩
  have X5 := hidd (X4.out.step hb5)
  have G5 := hidd ((GBox.new (w := w4) rfl 25 0 0).step hb5)
  clear m0 m1 m2 m3 n0 n1 n2 X4 hb5
  obtain ⟨⟨-, ⟨m0, m1⟩, m2, m3⟩, ⟨n0, n1, n2⟩, -, -, -⟩ := X5.out
  go_wp2_with fail
  have y8 : w4.heap.size < w5.heap.size := by have q := G5.out.1; simpa using q
  have X8 := hidd (X5.out.past (.cells #[.int .i64 0, .int .i64 0] 25))
  have G8 := hidd (G5.out.past (.cells #[.int .i64 0, .int .i64 0] 25))
  have E8 := hidd (GBox.new (w := w5) (b := w5.heap.size) (by first | rfl | simp) 25 0 0)
  refine (CRC.out _ (HL.out.below X8.out.2.2.2.2)).mono ?_
  rintro e w9 ⟨RR, rfl, hRR, hb9⟩
  obtain rfl : RR = false := by cases RR; rfl; exact absurd (HR.out.2 (hRR.1 rfl)) (by simp)
  have X9 := hidd (X8.out.step hb9)
  have G9 := hidd (G8.out.step hb9)
  have E9 := hidd (E8.out.step hb9)
  clear hRR hb9 X8 G8 E8 X5 G5 m0 m1 m2 m3 n0 n1 n2
  obtain ⟨⟨-, ⟨m0, m1⟩, m2, m3⟩, ⟨n0, n1, n2⟩, ⟨x0, x1, x2⟩, ⟨y0, y1, y2⟩, -⟩ := X9.out
  obtain ⟨g0, g1, g2, g3, g4⟩ := G9.out
  obtain ⟨e0, e1, e2, e3, e4⟩ := E9.out
  go_wp2_with fail
  refine (T1.out _).mono ?_
  rintro e wc ⟨rfl, hbc⟩
  have Xc := hidd (X9.out.step hbc)
  have Gc := hidd (G9.out.step hbc)
  have Ec := hidd (E9.out.step hbc)
  clear X9 G9 E9 hbc m0 m1 m2 m3 n0 n1 n2 x0 x1 x2 y0 y1 y2 g0 g1 g2 g3 g4 e0 e1 e2 e3 e4
  obtain ⟨-, -, ⟨x0, x1, x2⟩, ⟨y0, y1, y2⟩, -⟩ := Xc.out
  obtain ⟨g0, g1, g2, g3, g4⟩ := Gc.out
  obtain ⟨e0, e1, e2, e3, e4⟩ := Ec.out
  go_wp2_with fail
  refine (T2.out _).mono ?_
  rintro e wd ⟨rfl, hbd⟩
  have HBd := hidd (below_step Xc.out.2.2.2.2 hbd)
  clear Xc Gc Ec hbd x0 x1 x2 y0 y1 y2 g0 g1 g2 g3 g4 e0 e1 e2 e3 e4
  go_wp2_with fail
  refine (ck.out _).mono ?_
  rintro e we ⟨rfl, hbe⟩
  have HBe := hidd (below_step HBd.out hbe)
  clear HBd hbe
  go_wp2_with fail
  go_ret
  exact ⟨by first | rfl | simp, by have q := HBe.out; (repeat' (first | (with_reducible exact Below.refl _ _) | (with_reducible assumption) | (with_reducible apply Below.setCell) | (with_reducible apply Below.alloc) | (with_reducible apply Below.drew) | (with_reducible apply below_drewN) | (with_reducible refine Below.trans ?_ (Below.mono (by assumption) ?_)) | omega | (simp; done) | (simp; omega)))⟩
set_option maxRecDepth 100000 in
set_option maxHeartbeats 8000000 in
theorem serves_001 (A : Option Addr) (L : List (Int × Int)) (c : Nat) (rn rd ln ld n d : Int) (hc : L.length ≤ c) (hcm : c ≤ maxLen) (hw : Word4 rn rd ln ld) (hn : (-9223372036854775808 ≤ n ∧ n ≤ 9223372036854775807) ∧ -9223372036854775808 ≤ d ∧ d ≤ 9223372036854775807) (hl40 : ¬ L.length > 40) (hS : servB rn rd ln ld = false) (hB : withB n d 2147483647 = false) (hR : true = true ↔ Zp.RgtC L) (w : World) (hl : Zp.Lie Zp.sendV 2 w w.heap.size A L) :
    Calls Tryz.prog 4 #[.slice A L.length c, .agg #[.int .i64 rn, .int .i64 rd, .int .i64 ln, .int .i64 ld], .agg #[.int .i64 n, .int .i64 d]] w fun e w' => e = .returned (.bool true) ∧ Below w.heap.size w w' := by
  have HL := hidd hl
  have ck := hidd (fun W => known4_any W)
  have cAt := fun W => At_any rn rd ln ld n d hw hn W
  have cHi := fun W (h : Zp.Lie Zp.sendV 2 W W.heap.size A L) => High_any true A L c (by omega) hR hc hcm n d hn W h
  have cCh := fun W => minCheck_any rn rd ln ld hw W
  have cRi := fun W => refRight4 rn rd ln ld hw W
  have cBe := fun W => between_any n d 2147483647 hn.1.1 hn.1.2 hn.2.1 hn.2.2 (by decide) (by decide) W
  rw [hS] at cCh cRi
  rw [hB] at cBe
  rw [if_neg (by decide)] at cCh
  have cRc := fun W (h : Zp.Lie Zp.sendV 2 W W.heap.size A L) => Zp.right3_any A L c (by omega) W h
  have eS : servM rn rd ln ld n d = (0, 0, 2) := by unfold servM; rw [hS, hB]; rfl
  rw [eS] at cAt
  clear eS
  have eH : highM true L n d = (0, 0, 2) := by unfold highM; rw [hB]; rfl
  rw [eH] at cHi
  clear eH
  unfold pairOf at cAt cHi
  dsimp only at cAt cHi
  have CAT := hidd cAt
  have CHI := hidd cHi
  have CCH := hidd cCh
  have CRI := hidd cRi
  have CBE := hidd cBe
  have CRC := hidd cRc
  have HR := hidd hR
  have T1 := hidd (fun W => told_same4 (0) (0) (2) W)
  have T2 := hidd (fun W => told_same4 (0) (0) (2) W)
  have HS0 := hidd ((HasServ.new w rn rd ln ld 27).step ((Below.refl _ _).alloc (Nat.le_refl _) (.cells #[.int .i64 n, .int .i64 d] 25)))
  have HN0 := hidd (HasRat.new (w.alloc (.cells #[.int .i64 rn, .int .i64 rd, .int .i64 ln, .int .i64 ld] 27)) n d 25)
  have HB0 := hidd (show Below w.heap.size w ((w.alloc (.cells #[.int .i64 rn, .int .i64 rd, .int .i64 ln, .int .i64 ld] 27)).alloc (.cells #[.int .i64 n, .int .i64 d] 25)) by (repeat' (first | (with_reducible exact Below.refl _ _) | (with_reducible assumption) | (with_reducible apply Below.setCell) | (with_reducible apply Below.alloc) | (with_reducible apply Below.drew) | (with_reducible apply below_drewN) | (with_reducible refine Below.trans ?_ (Below.mono (by assumption) ?_)) | omega | (simp; done) | (simp; omega))))
  have h40 : decide ((L.length : Int) > 40) = false := decide_eq_false (by omega)
  clear cAt cHi cCh cRi cBe cRc hl hR hw hn hS hB hl40 hc hcm
  go_enter Tryz.func4, Tryz.ntmps4
  go_wp2_with fail
  refine (CAT.out _).mono ?_
  rintro e w1 ⟨rfl, hb1⟩
  have HS1 := hidd (HS0.out.step hb1)
  have HN1 := hidd (show HasRat w1 (w.heap.size + 1) n d from by have q := HN0.out.step hb1; simpa using q)
  have HB1 := hidd (below_step HB0.out hb1)
  clear HS0 HN0 HB0 hb1
  obtain ⟨n0, n1, n2⟩ := HN1.out
  go_wp2_with fail
  refine (CHI.out _ (HL.out.below (by have q := HB1.out; (repeat' (first | (with_reducible exact Below.refl _ _) | (with_reducible assumption) | (with_reducible apply Below.setCell) | (with_reducible apply Below.alloc) | (with_reducible apply Below.drew) | (with_reducible apply below_drewN) | (with_reducible refine Below.trans ?_ (Below.mono (by assumption) ?_)) | omega | (simp; done) | (simp; omega)))))).mono ?_
  rintro e w2 ⟨rfl, hb2⟩
  have hx2 := hb2.size
  have HX := hidd (show Srv w (w2.alloc (.cells #[.int .i64 (0), .int .i64 (0)] 25)) w.heap.size (w.heap.size + 1) w1.heap.size w2.heap.size rn rd ln ld n d (0) (0) (0) (0) from
    ⟨((HS1.out.step ((Below.refl _ _).alloc (Nat.le_refl _) _)).step hb2).step ((Below.refl _ _).alloc (Nat.le_refl _) _), ((HN1.out.past _).step hb2).past _, ((HasRat.new w1 (0) (0) 25).step hb2).past _, HasRat.new w2 (0) (0) 25, below_new (below_step (below_new HB1.out _) hb2) _⟩)
  clear HS1 HN1 HB1 hb2 n0 n1 n2
  obtain ⟨⟨dd, ⟨q0, q1⟩, q2, q3⟩, -, -, -, hBw⟩ := HX.out
  have d0 := dd
  have d1 := dd
  have d2 := dd
  have d3 := dd
  have KEEP := hidd (fun (w' : World) (hb : Below (w2.alloc (.cells #[.int .i64 (0), .int .i64 (0)] 25)).heap.size (w2.alloc (.cells #[.int .i64 (0), .int .i64 (0)] 25)) w') => (show w'.cell? ⟨w.heap.size, 0, none⟩ = some (.int .i64 rn) ∧ w'.cell? ⟨w.heap.size, 1, none⟩ = some (.int .i64 rd) ∧ w'.cell? ⟨w.heap.size, 2, none⟩ = some (.int .i64 ln) ∧ w'.cell? ⟨w.heap.size, 3, none⟩ = some (.int .i64 ld) from ⟨(hb.cell (p := ⟨w.heap.size, 0, none⟩) d0).trans q0, (hb.cell (p := ⟨w.heap.size, 1, none⟩) d1).trans q1, (hb.cell (p := ⟨w.heap.size, 2, none⟩) d2).trans q2, (hb.cell (p := ⟨w.heap.size, 3, none⟩) d3).trans q3⟩))
  have OUT := hidd (fun (w' : World) (hb : Below (w2.alloc (.cells #[.int .i64 (0), .int .i64 (0)] 25)).heap.size (w2.alloc (.cells #[.int .i64 (0), .int .i64 (0)] 25)) w') => (show True ∧ True ∧ True ∧ Below w.heap.size w w' from ⟨trivial, trivial, trivial, below_step hBw hb⟩))
  clear dd d0 d1 d2 d3 q0 q1 q2 q3 hBw
  obtain ⟨k0, k1, k2, k3⟩ := KEEP.out _ (Below.refl _ _)
  go_wp2_with fail
  go_region_held (fun w' => w'.cell? ⟨w.heap.size, 0, none⟩ = some (.int .i64 rn) ∧ w'.cell? ⟨w.heap.size, 1, none⟩ = some (.int .i64 rd) ∧ w'.cell? ⟨w.heap.size, 2, none⟩ = some (.int .i64 ln) ∧ w'.cell? ⟨w.heap.size, 3, none⟩ = some (.int .i64 ld))
    ((first | exact KEEP.out _ cum2 | exact KEEP.out _ cum1 | exact KEEP.out _ (Below.refl _ _) | exact KEEP.out _ (Below.drew (Below.refl _ _)) | exact KEEP.out _ (below_new cum2 _) | exact KEEP.out _ (below_new (below_new cum2 _) _) | exact KEEP.out _ (below_new (Below.drew (Below.refl _ _)) _) | (refine KEEP.out _ ?_; have qq := cum2; (repeat' (first | (with_reducible exact Below.refl _ _) | (with_reducible assumption) | (with_reducible apply Below.setCell) | (with_reducible apply Below.alloc) | (with_reducible apply Below.drew) | (with_reducible apply below_drewN) | (with_reducible refine Below.trans ?_ (Below.mono (by assumption) ?_)) | omega | (simp; done) | (simp; omega))); done) | (refine KEEP.out _ ?_; (repeat' (first | (with_reducible exact Below.refl _ _) | (with_reducible assumption) | (with_reducible apply Below.setCell) | (with_reducible apply Below.alloc) | (with_reducible apply Below.drew) | (with_reducible apply below_drewN) | (with_reducible refine Below.trans ?_ (Below.mono (by assumption) ?_)) | omega | (simp; done) | (simp; omega))); done) | (obtain ⟨j0, j1, j2, j3⟩ := KEEP.out _ cum2; refine ⟨?_, ?_, ?_, ?_⟩ <;> simp [go_sem, *]; done) | go_keep))
    ((first
      | (go_at_call 20; refine (CCH.out _).mono ?_; rintro E1 v1 ⟨rfl, l1⟩; have cum1 : Below (w2.alloc (.cells #[.int .i64 (0), .int .i64 (0)] 25)).heap.size (w2.alloc (.cells #[.int .i64 (0), .int .i64 (0)] 25)) v1 := (by first | exact below_step (Below.drew (Below.refl _ _)) l1 | exact below_step (Below.refl _ _) l1 | (refine below_step ?_ l1; (repeat' (first | (with_reducible exact Below.refl _ _) | (with_reducible assumption) | (with_reducible apply Below.setCell) | (with_reducible apply Below.alloc) | (with_reducible apply Below.drew) | (with_reducible apply below_drewN) | (with_reducible refine Below.trans ?_ (Below.mono (by assumption) ?_)) | omega | (simp; done) | (simp; omega))))); have cz1 := Below.size cum1)
      | (go_at_call 21; refine (CRI.out _).mono ?_; rintro E2 v2 ⟨rfl, l2⟩; have cum2 : Below (w2.alloc (.cells #[.int .i64 (0), .int .i64 (0)] 25)).heap.size (w2.alloc (.cells #[.int .i64 (0), .int .i64 (0)] 25)) v2 := (by first | exact below_step cum1 l2 | (refine below_step ?_ l2; have qq := cum1; (repeat' (first | (with_reducible exact Below.refl _ _) | (with_reducible assumption) | (with_reducible apply Below.setCell) | (with_reducible apply Below.alloc) | (with_reducible apply Below.drew) | (with_reducible apply below_drewN) | (with_reducible refine Below.trans ?_ (Below.mono (by assumption) ?_)) | omega | (simp; done) | (simp; omega))))); have cz2 := Below.size cum2)))
  have X3 := hidd (HX.out.step cum2)
  clear k0 k1 k2 k3 KEEP OUT HX hx2 cum1 cum2 cz1 cz2 l1 l2
  obtain ⟨⟨-, ⟨m0, m1⟩, m2, m3⟩, ⟨n0, n1, n2⟩, -, -, -⟩ := X3.out
  go_wp2_with fail
  refine (CBE.out _).mono ?_
  rintro e w4 ⟨rfl, hb4⟩
  obtain ⟨⟨z0, -⟩, ⟨-, -, z1⟩, ⟨-, -, z2⟩, ⟨-, -, z3⟩, zb⟩ := X3.out.step hb4
  have z4 := zb.size
  clear zb
  have X4 := hidd ((X3.out.step hb4).past (.cells #[.int .i64 0, .int .i64 0] 25))
  clear m0 m1 m2 m3 n0 n1 n2 X3 hb4
  obtain ⟨⟨-, ⟨m0, m1⟩, m2, m3⟩, ⟨n0, n1, n2⟩, -, -, -⟩ := X4.out
  go_wp2_with fail
  refine (CRI.out _).mono ?_
  rintro e w5 ⟨rfl, hb5⟩
  have X5 := hidd (X4.out.step hb5)
  have G5 := hidd ((GBox.new (w := w4) rfl 25 0 0).step hb5)
  clear m0 m1 m2 m3 n0 n1 n2 X4 hb5
  obtain ⟨⟨-, ⟨m0, m1⟩, m2, m3⟩, ⟨n0, n1, n2⟩, -, -, -⟩ := X5.out
  go_wp2_with fail
  have y8 : w4.heap.size < w5.heap.size := by have q := G5.out.1; simpa using q
  have X8 := hidd (X5.out.past (.cells #[.int .i64 0, .int .i64 0] 25))
  have G8 := hidd (G5.out.past (.cells #[.int .i64 0, .int .i64 0] 25))
  have E8 := hidd (GBox.new (w := w5) (b := w5.heap.size) (by first | rfl | simp) 25 0 0)
  refine (CRC.out _ (HL.out.below X8.out.2.2.2.2)).mono ?_
  rintro e w9 ⟨RR, rfl, hRR, hb9⟩
  obtain rfl : RR = true := hRR.2 (by first | exact HR.out.1 rfl | exact HR.out.1 trivial)
  have X9 := hidd (X8.out.step hb9)
  have G9 := hidd (G8.out.step hb9)
  have E9 := hidd (E8.out.step hb9)
  clear hRR hb9 X8 G8 E8 X5 G5 m0 m1 m2 m3 n0 n1 n2
  obtain ⟨⟨-, ⟨m0, m1⟩, m2, m3⟩, ⟨n0, n1, n2⟩, ⟨x0, x1, x2⟩, ⟨y0, y1, y2⟩, -⟩ := X9.out
  obtain ⟨g0, g1, g2, g3, g4⟩ := G9.out
  obtain ⟨e0, e1, e2, e3, e4⟩ := E9.out
  go_wp2_with fail
  refine (T1.out _).mono ?_
  rintro e wc ⟨rfl, hbc⟩
  have Xc := hidd (X9.out.step hbc)
  have Gc := hidd (G9.out.step hbc)
  have Ec := hidd (E9.out.step hbc)
  clear X9 G9 E9 hbc m0 m1 m2 m3 n0 n1 n2 x0 x1 x2 y0 y1 y2 g0 g1 g2 g3 g4 e0 e1 e2 e3 e4
  obtain ⟨-, -, ⟨x0, x1, x2⟩, ⟨y0, y1, y2⟩, -⟩ := Xc.out
  obtain ⟨g0, g1, g2, g3, g4⟩ := Gc.out
  obtain ⟨e0, e1, e2, e3, e4⟩ := Ec.out
  go_wp2_with fail
  refine (T2.out _).mono ?_
  rintro e wd ⟨rfl, hbd⟩
  have HBd := hidd (below_step Xc.out.2.2.2.2 hbd)
  clear Xc Gc Ec hbd x0 x1 x2 y0 y1 y2 g0 g1 g2 g3 g4 e0 e1 e2 e3 e4
  go_wp2_with fail
  refine (ck.out _).mono ?_
  rintro e we ⟨rfl, hbe⟩
  have HBe := hidd (below_step HBd.out hbe)
  clear HBd hbe
  go_wp2_with fail
  go_ret
  exact ⟨by first | rfl | simp, by have q := HBe.out; (repeat' (first | (with_reducible exact Below.refl _ _) | (with_reducible assumption) | (with_reducible apply Below.setCell) | (with_reducible apply Below.alloc) | (with_reducible apply Below.drew) | (with_reducible apply below_drewN) | (with_reducible refine Below.trans ?_ (Below.mono (by assumption) ?_)) | omega | (simp; done) | (simp; omega)))⟩
set_option maxRecDepth 100000 in
set_option maxHeartbeats 8000000 in
theorem serves_010 (A : Option Addr) (L : List (Int × Int)) (c : Nat) (rn rd ln ld n d : Int) (hc : L.length ≤ c) (hcm : c ≤ maxLen) (hw : Word4 rn rd ln ld) (hn : (-9223372036854775808 ≤ n ∧ n ≤ 9223372036854775807) ∧ -9223372036854775808 ≤ d ∧ d ≤ 9223372036854775807) (hl40 : ¬ L.length > 40) (hS : servB rn rd ln ld = false) (hB : withB n d 2147483647 = true) (hR : false = true ↔ Zp.RgtC L) (w : World) (hl : Zp.Lie Zp.sendV 2 w w.heap.size A L) :
    Calls Tryz.prog 4 #[.slice A L.length c, .agg #[.int .i64 rn, .int .i64 rd, .int .i64 ln, .int .i64 ld], .agg #[.int .i64 n, .int .i64 d]] w fun e w' => e = .returned (.bool true) ∧ Below w.heap.size w w' := by
  have HL := hidd hl
  have ck := hidd (fun W => known4_any W)
  have cAt := fun W => At_any rn rd ln ld n d hw hn W
  have cHi := fun W (h : Zp.Lie Zp.sendV 2 W W.heap.size A L) => High_any false A L c (by omega) hR hc hcm n d hn W h
  have cCh := fun W => minCheck_any rn rd ln ld hw W
  have cRi := fun W => refRight4 rn rd ln ld hw W
  have cBe := fun W => between_any n d 2147483647 hn.1.1 hn.1.2 hn.2.1 hn.2.2 (by decide) (by decide) W
  rw [hS] at cCh cRi
  rw [hB] at cBe
  rw [if_neg (by decide)] at cCh
  have cRc := fun W (h : Zp.Lie Zp.sendV 2 W W.heap.size A L) => Zp.right3_any A L c (by omega) W h
  have eS : servM rn rd ln ld n d = (0, 0, 2) := by unfold servM; rw [hS, hB]; rfl
  rw [eS] at cAt
  clear eS
  have eH : highM false L n d = (0, 0, 2) := by unfold highM; rfl
  rw [eH] at cHi
  clear eH
  unfold pairOf at cAt cHi
  dsimp only at cAt cHi
  have CAT := hidd cAt
  have CHI := hidd cHi
  have CCH := hidd cCh
  have CRI := hidd cRi
  have CBE := hidd cBe
  have CRC := hidd cRc
  have HR := hidd hR
  have T1 := hidd (fun W => told_same4 (0) (0) (2) W)
  have T2 := hidd (fun W => told_same4 (0) (0) (2) W)
  have HS0 := hidd ((HasServ.new w rn rd ln ld 27).step ((Below.refl _ _).alloc (Nat.le_refl _) (.cells #[.int .i64 n, .int .i64 d] 25)))
  have HN0 := hidd (HasRat.new (w.alloc (.cells #[.int .i64 rn, .int .i64 rd, .int .i64 ln, .int .i64 ld] 27)) n d 25)
  have HB0 := hidd (show Below w.heap.size w ((w.alloc (.cells #[.int .i64 rn, .int .i64 rd, .int .i64 ln, .int .i64 ld] 27)).alloc (.cells #[.int .i64 n, .int .i64 d] 25)) by (repeat' (first | (with_reducible exact Below.refl _ _) | (with_reducible assumption) | (with_reducible apply Below.setCell) | (with_reducible apply Below.alloc) | (with_reducible apply Below.drew) | (with_reducible apply below_drewN) | (with_reducible refine Below.trans ?_ (Below.mono (by assumption) ?_)) | omega | (simp; done) | (simp; omega))))
  have h40 : decide ((L.length : Int) > 40) = false := decide_eq_false (by omega)
  clear cAt cHi cCh cRi cBe cRc hl hR hw hn hS hB hl40 hc hcm
  go_enter Tryz.func4, Tryz.ntmps4
  go_wp2_with fail
  refine (CAT.out _).mono ?_
  rintro e w1 ⟨rfl, hb1⟩
  have HS1 := hidd (HS0.out.step hb1)
  have HN1 := hidd (show HasRat w1 (w.heap.size + 1) n d from by have q := HN0.out.step hb1; simpa using q)
  have HB1 := hidd (below_step HB0.out hb1)
  clear HS0 HN0 HB0 hb1
  obtain ⟨n0, n1, n2⟩ := HN1.out
  go_wp2_with fail
  refine (CHI.out _ (HL.out.below (by have q := HB1.out; (repeat' (first | (with_reducible exact Below.refl _ _) | (with_reducible assumption) | (with_reducible apply Below.setCell) | (with_reducible apply Below.alloc) | (with_reducible apply Below.drew) | (with_reducible apply below_drewN) | (with_reducible refine Below.trans ?_ (Below.mono (by assumption) ?_)) | omega | (simp; done) | (simp; omega)))))).mono ?_
  rintro e w2 ⟨rfl, hb2⟩
  have hx2 := hb2.size
  have HX := hidd (show Srv w (w2.alloc (.cells #[.int .i64 (0), .int .i64 (0)] 25)) w.heap.size (w.heap.size + 1) w1.heap.size w2.heap.size rn rd ln ld n d (0) (0) (0) (0) from
    ⟨((HS1.out.step ((Below.refl _ _).alloc (Nat.le_refl _) _)).step hb2).step ((Below.refl _ _).alloc (Nat.le_refl _) _), ((HN1.out.past _).step hb2).past _, ((HasRat.new w1 (0) (0) 25).step hb2).past _, HasRat.new w2 (0) (0) 25, below_new (below_step (below_new HB1.out _) hb2) _⟩)
  clear HS1 HN1 HB1 hb2 n0 n1 n2
  obtain ⟨⟨dd, ⟨q0, q1⟩, q2, q3⟩, -, -, -, hBw⟩ := HX.out
  have d0 := dd
  have d1 := dd
  have d2 := dd
  have d3 := dd
  have KEEP := hidd (fun (w' : World) (hb : Below (w2.alloc (.cells #[.int .i64 (0), .int .i64 (0)] 25)).heap.size (w2.alloc (.cells #[.int .i64 (0), .int .i64 (0)] 25)) w') => (show w'.cell? ⟨w.heap.size, 0, none⟩ = some (.int .i64 rn) ∧ w'.cell? ⟨w.heap.size, 1, none⟩ = some (.int .i64 rd) ∧ w'.cell? ⟨w.heap.size, 2, none⟩ = some (.int .i64 ln) ∧ w'.cell? ⟨w.heap.size, 3, none⟩ = some (.int .i64 ld) from ⟨(hb.cell (p := ⟨w.heap.size, 0, none⟩) d0).trans q0, (hb.cell (p := ⟨w.heap.size, 1, none⟩) d1).trans q1, (hb.cell (p := ⟨w.heap.size, 2, none⟩) d2).trans q2, (hb.cell (p := ⟨w.heap.size, 3, none⟩) d3).trans q3⟩))
  have OUT := hidd (fun (w' : World) (hb : Below (w2.alloc (.cells #[.int .i64 (0), .int .i64 (0)] 25)).heap.size (w2.alloc (.cells #[.int .i64 (0), .int .i64 (0)] 25)) w') => (show True ∧ True ∧ True ∧ Below w.heap.size w w' from ⟨trivial, trivial, trivial, below_step hBw hb⟩))
  clear dd d0 d1 d2 d3 q0 q1 q2 q3 hBw
  obtain ⟨k0, k1, k2, k3⟩ := KEEP.out _ (Below.refl _ _)
  go_wp2_with fail
  go_region_held (fun w' => w'.cell? ⟨w.heap.size, 0, none⟩ = some (.int .i64 rn) ∧ w'.cell? ⟨w.heap.size, 1, none⟩ = some (.int .i64 rd) ∧ w'.cell? ⟨w.heap.size, 2, none⟩ = some (.int .i64 ln) ∧ w'.cell? ⟨w.heap.size, 3, none⟩ = some (.int .i64 ld))
    ((first | exact KEEP.out _ cum2 | exact KEEP.out _ cum1 | exact KEEP.out _ (Below.refl _ _) | exact KEEP.out _ (Below.drew (Below.refl _ _)) | exact KEEP.out _ (below_new cum2 _) | exact KEEP.out _ (below_new (below_new cum2 _) _) | exact KEEP.out _ (below_new (Below.drew (Below.refl _ _)) _) | (refine KEEP.out _ ?_; have qq := cum2; (repeat' (first | (with_reducible exact Below.refl _ _) | (with_reducible assumption) | (with_reducible apply Below.setCell) | (with_reducible apply Below.alloc) | (with_reducible apply Below.drew) | (with_reducible apply below_drewN) | (with_reducible refine Below.trans ?_ (Below.mono (by assumption) ?_)) | omega | (simp; done) | (simp; omega))); done) | (refine KEEP.out _ ?_; (repeat' (first | (with_reducible exact Below.refl _ _) | (with_reducible assumption) | (with_reducible apply Below.setCell) | (with_reducible apply Below.alloc) | (with_reducible apply Below.drew) | (with_reducible apply below_drewN) | (with_reducible refine Below.trans ?_ (Below.mono (by assumption) ?_)) | omega | (simp; done) | (simp; omega))); done) | (obtain ⟨j0, j1, j2, j3⟩ := KEEP.out _ cum2; refine ⟨?_, ?_, ?_, ?_⟩ <;> simp [go_sem, *]; done) | go_keep))
    ((first
      | (go_at_call 20; refine (CCH.out _).mono ?_; rintro E1 v1 ⟨rfl, l1⟩; have cum1 : Below (w2.alloc (.cells #[.int .i64 (0), .int .i64 (0)] 25)).heap.size (w2.alloc (.cells #[.int .i64 (0), .int .i64 (0)] 25)) v1 := (by first | exact below_step (Below.drew (Below.refl _ _)) l1 | exact below_step (Below.refl _ _) l1 | (refine below_step ?_ l1; (repeat' (first | (with_reducible exact Below.refl _ _) | (with_reducible assumption) | (with_reducible apply Below.setCell) | (with_reducible apply Below.alloc) | (with_reducible apply Below.drew) | (with_reducible apply below_drewN) | (with_reducible refine Below.trans ?_ (Below.mono (by assumption) ?_)) | omega | (simp; done) | (simp; omega))))); have cz1 := Below.size cum1)
      | (go_at_call 21; refine (CRI.out _).mono ?_; rintro E2 v2 ⟨rfl, l2⟩; have cum2 : Below (w2.alloc (.cells #[.int .i64 (0), .int .i64 (0)] 25)).heap.size (w2.alloc (.cells #[.int .i64 (0), .int .i64 (0)] 25)) v2 := (by first | exact below_step cum1 l2 | (refine below_step ?_ l2; have qq := cum1; (repeat' (first | (with_reducible exact Below.refl _ _) | (with_reducible assumption) | (with_reducible apply Below.setCell) | (with_reducible apply Below.alloc) | (with_reducible apply Below.drew) | (with_reducible apply below_drewN) | (with_reducible refine Below.trans ?_ (Below.mono (by assumption) ?_)) | omega | (simp; done) | (simp; omega))))); have cz2 := Below.size cum2)))
  have X3 := hidd (HX.out.step cum2)
  clear k0 k1 k2 k3 KEEP OUT HX hx2 cum1 cum2 cz1 cz2 l1 l2
  obtain ⟨⟨-, ⟨m0, m1⟩, m2, m3⟩, ⟨n0, n1, n2⟩, -, -, -⟩ := X3.out
  go_wp2_with fail
  refine (CBE.out _).mono ?_
  rintro e w4 ⟨rfl, hb4⟩
  obtain ⟨⟨z0, -⟩, ⟨-, -, z1⟩, ⟨-, -, z2⟩, ⟨-, -, z3⟩, zb⟩ := X3.out.step hb4
  have z4 := zb.size
  clear zb
  have X4 := hidd ((X3.out.step hb4).past (.cells #[.int .i64 0, .int .i64 0] 25))
  clear m0 m1 m2 m3 n0 n1 n2 X3 hb4
  obtain ⟨⟨-, ⟨m0, m1⟩, m2, m3⟩, ⟨n0, n1, n2⟩, -, -, -⟩ := X4.out
  go_wp2_with fail
  refine (CRI.out _).mono ?_
  rintro e w5 ⟨rfl, hb5⟩
  have X5 := hidd (X4.out.step hb5)
  have G5 := hidd ((GBox.new (w := w4) rfl 25 0 0).step hb5)
  clear m0 m1 m2 m3 n0 n1 n2 X4 hb5
  obtain ⟨⟨-, ⟨m0, m1⟩, m2, m3⟩, ⟨n0, n1, n2⟩, -, -, -⟩ := X5.out
  go_wp2_with fail
  have y8 : w4.heap.size < w5.heap.size := by have q := G5.out.1; simpa using q
  have X8 := hidd (X5.out.past (.cells #[.int .i64 0, .int .i64 0] 25))
  have G8 := hidd (G5.out.past (.cells #[.int .i64 0, .int .i64 0] 25))
  have E8 := hidd (GBox.new (w := w5) (b := w5.heap.size) (by first | rfl | simp) 25 0 0)
  refine (CRC.out _ (HL.out.below X8.out.2.2.2.2)).mono ?_
  rintro e w9 ⟨RR, rfl, hRR, hb9⟩
  obtain rfl : RR = false := by cases RR; rfl; exact absurd (HR.out.2 (hRR.1 rfl)) (by simp)
  have X9 := hidd (X8.out.step hb9)
  have G9 := hidd (G8.out.step hb9)
  have E9 := hidd (E8.out.step hb9)
  clear hRR hb9 X8 G8 E8 X5 G5 m0 m1 m2 m3 n0 n1 n2
  obtain ⟨⟨-, ⟨m0, m1⟩, m2, m3⟩, ⟨n0, n1, n2⟩, ⟨x0, x1, x2⟩, ⟨y0, y1, y2⟩, -⟩ := X9.out
  obtain ⟨g0, g1, g2, g3, g4⟩ := G9.out
  obtain ⟨e0, e1, e2, e3, e4⟩ := E9.out
  go_wp2_with fail
  refine (T1.out _).mono ?_
  rintro e wc ⟨rfl, hbc⟩
  have Xc := hidd (X9.out.step hbc)
  have Gc := hidd (G9.out.step hbc)
  have Ec := hidd (E9.out.step hbc)
  clear X9 G9 E9 hbc m0 m1 m2 m3 n0 n1 n2 x0 x1 x2 y0 y1 y2 g0 g1 g2 g3 g4 e0 e1 e2 e3 e4
  obtain ⟨-, -, ⟨x0, x1, x2⟩, ⟨y0, y1, y2⟩, -⟩ := Xc.out
  obtain ⟨g0, g1, g2, g3, g4⟩ := Gc.out
  obtain ⟨e0, e1, e2, e3, e4⟩ := Ec.out
  go_wp2_with fail
  refine (T2.out _).mono ?_
  rintro e wd ⟨rfl, hbd⟩
  have HBd := hidd (below_step Xc.out.2.2.2.2 hbd)
  clear Xc Gc Ec hbd x0 x1 x2 y0 y1 y2 g0 g1 g2 g3 g4 e0 e1 e2 e3 e4
  go_wp2_with fail
  refine (ck.out _).mono ?_
  rintro e we ⟨rfl, hbe⟩
  have HBe := hidd (below_step HBd.out hbe)
  clear HBd hbe
  go_wp2_with fail
  go_ret
  exact ⟨by first | rfl | simp, by have q := HBe.out; (repeat' (first | (with_reducible exact Below.refl _ _) | (with_reducible assumption) | (with_reducible apply Below.setCell) | (with_reducible apply Below.alloc) | (with_reducible apply Below.drew) | (with_reducible apply below_drewN) | (with_reducible refine Below.trans ?_ (Below.mono (by assumption) ?_)) | omega | (simp; done) | (simp; omega)))⟩
set_option maxRecDepth 100000 in
set_option maxHeartbeats 8000000 in
theorem serves_011 (A : Option Addr) (L : List (Int × Int)) (c : Nat) (rn rd ln ld n d : Int) (hc : L.length ≤ c) (hcm : c ≤ maxLen) (hw : Word4 rn rd ln ld) (hn : (-9223372036854775808 ≤ n ∧ n ≤ 9223372036854775807) ∧ -9223372036854775808 ≤ d ∧ d ≤ 9223372036854775807) (hl40 : ¬ L.length > 40) (hS : servB rn rd ln ld = false) (hB : withB n d 2147483647 = true) (hR : true = true ↔ Zp.RgtC L) (w : World) (hl : Zp.Lie Zp.sendV 2 w w.heap.size A L) :
    Calls Tryz.prog 4 #[.slice A L.length c, .agg #[.int .i64 rn, .int .i64 rd, .int .i64 ln, .int .i64 ld], .agg #[.int .i64 n, .int .i64 d]] w fun e w' => e = .returned (.bool true) ∧ Below w.heap.size w w' := by
  have HL := hidd hl
  have ck := hidd (fun W => known4_any W)
  have cAt := fun W => At_any rn rd ln ld n d hw hn W
  have cHi := fun W (h : Zp.Lie Zp.sendV 2 W W.heap.size A L) => High_any true A L c (by omega) hR hc hcm n d hn W h
  have cCh := fun W => minCheck_any rn rd ln ld hw W
  have cRi := fun W => refRight4 rn rd ln ld hw W
  have cBe := fun W => between_any n d 2147483647 hn.1.1 hn.1.2 hn.2.1 hn.2.2 (by decide) (by decide) W
  rw [hS] at cCh cRi
  rw [hB] at cBe
  rw [if_neg (by decide)] at cCh
  have cRc := fun W (h : Zp.Lie Zp.sendV 2 W W.heap.size A L) => Zp.right3_any A L c (by omega) W h
  have eS : servM rn rd ln ld n d = (0, 0, 2) := by unfold servM; rw [hS, hB]; rfl
  rw [eS] at cAt
  clear eS
  have hfb := with_fit hB hn
  have eH : highM true L n d = highR L n d := by unfold highM; rw [hB]; rfl
  have hrg := hR.1 rfl
  have hmay : MayL L := mayL_of hrg.2.1
  have cHr := fun W (h : Zp.Lie Zp.sendV 2 W W.heap.size A L) => refHigh4 A L c hrg.1.1 (by omega) hmay n d hfb.right W (liesO_of h)
  have tH := tells_highM hR (n := n) (d := d) hn
  rw [eH] at cHi tH
  generalize highR L n d = S at *
  obtain ⟨h1, h2, he⟩ := S
  have cNh := fun W => num4_any h1 h2 he (NumOk.of tH) W
  unfold numV at cHr
  dsimp only at cHr
  have CHR := hidd cHr
  have CNH := hidd cNh
  clear cHr cNh eH tH hfb hrg hmay
  unfold pairOf at cAt cHi
  dsimp only at cAt cHi
  have CAT := hidd cAt
  have CHI := hidd cHi
  have CCH := hidd cCh
  have CRI := hidd cRi
  have CBE := hidd cBe
  have CRC := hidd cRc
  have HR := hidd hR
  have T1 := hidd (fun W => told_same4 (0) (0) (2) W)
  have T2 := hidd (fun W => told_same4 (h1) (h2) (he) W)
  have HS0 := hidd ((HasServ.new w rn rd ln ld 27).step ((Below.refl _ _).alloc (Nat.le_refl _) (.cells #[.int .i64 n, .int .i64 d] 25)))
  have HN0 := hidd (HasRat.new (w.alloc (.cells #[.int .i64 rn, .int .i64 rd, .int .i64 ln, .int .i64 ld] 27)) n d 25)
  have HB0 := hidd (show Below w.heap.size w ((w.alloc (.cells #[.int .i64 rn, .int .i64 rd, .int .i64 ln, .int .i64 ld] 27)).alloc (.cells #[.int .i64 n, .int .i64 d] 25)) by (repeat' (first | (with_reducible exact Below.refl _ _) | (with_reducible assumption) | (with_reducible apply Below.setCell) | (with_reducible apply Below.alloc) | (with_reducible apply Below.drew) | (with_reducible apply below_drewN) | (with_reducible refine Below.trans ?_ (Below.mono (by assumption) ?_)) | omega | (simp; done) | (simp; omega))))
  have h40 : decide ((L.length : Int) > 40) = false := decide_eq_false (by omega)
  clear cAt cHi cCh cRi cBe cRc hl hR hw hn hS hB hl40 hc hcm
  go_enter Tryz.func4, Tryz.ntmps4
  go_wp2_with fail
  refine (CAT.out _).mono ?_
  rintro e w1 ⟨rfl, hb1⟩
  have HS1 := hidd (HS0.out.step hb1)
  have HN1 := hidd (show HasRat w1 (w.heap.size + 1) n d from by have q := HN0.out.step hb1; simpa using q)
  have HB1 := hidd (below_step HB0.out hb1)
  clear HS0 HN0 HB0 hb1
  obtain ⟨n0, n1, n2⟩ := HN1.out
  go_wp2_with fail
  refine (CHI.out _ (HL.out.below (by have q := HB1.out; (repeat' (first | (with_reducible exact Below.refl _ _) | (with_reducible assumption) | (with_reducible apply Below.setCell) | (with_reducible apply Below.alloc) | (with_reducible apply Below.drew) | (with_reducible apply below_drewN) | (with_reducible refine Below.trans ?_ (Below.mono (by assumption) ?_)) | omega | (simp; done) | (simp; omega)))))).mono ?_
  rintro e w2 ⟨rfl, hb2⟩
  have hx2 := hb2.size
  have HX := hidd (show Srv w (w2.alloc (.cells #[.int .i64 (h1), .int .i64 (h2)] 25)) w.heap.size (w.heap.size + 1) w1.heap.size w2.heap.size rn rd ln ld n d (0) (0) (h1) (h2) from
    ⟨((HS1.out.step ((Below.refl _ _).alloc (Nat.le_refl _) _)).step hb2).step ((Below.refl _ _).alloc (Nat.le_refl _) _), ((HN1.out.past _).step hb2).past _, ((HasRat.new w1 (0) (0) 25).step hb2).past _, HasRat.new w2 (h1) (h2) 25, below_new (below_step (below_new HB1.out _) hb2) _⟩)
  clear HS1 HN1 HB1 hb2 n0 n1 n2
  obtain ⟨⟨dd, ⟨q0, q1⟩, q2, q3⟩, -, -, -, hBw⟩ := HX.out
  have d0 := dd
  have d1 := dd
  have d2 := dd
  have d3 := dd
  have KEEP := hidd (fun (w' : World) (hb : Below (w2.alloc (.cells #[.int .i64 (h1), .int .i64 (h2)] 25)).heap.size (w2.alloc (.cells #[.int .i64 (h1), .int .i64 (h2)] 25)) w') => (show w'.cell? ⟨w.heap.size, 0, none⟩ = some (.int .i64 rn) ∧ w'.cell? ⟨w.heap.size, 1, none⟩ = some (.int .i64 rd) ∧ w'.cell? ⟨w.heap.size, 2, none⟩ = some (.int .i64 ln) ∧ w'.cell? ⟨w.heap.size, 3, none⟩ = some (.int .i64 ld) from ⟨(hb.cell (p := ⟨w.heap.size, 0, none⟩) d0).trans q0, (hb.cell (p := ⟨w.heap.size, 1, none⟩) d1).trans q1, (hb.cell (p := ⟨w.heap.size, 2, none⟩) d2).trans q2, (hb.cell (p := ⟨w.heap.size, 3, none⟩) d3).trans q3⟩))
  have OUT := hidd (fun (w' : World) (hb : Below (w2.alloc (.cells #[.int .i64 (h1), .int .i64 (h2)] 25)).heap.size (w2.alloc (.cells #[.int .i64 (h1), .int .i64 (h2)] 25)) w') => (show True ∧ True ∧ True ∧ Below w.heap.size w w' from ⟨trivial, trivial, trivial, below_step hBw hb⟩))
  clear dd d0 d1 d2 d3 q0 q1 q2 q3 hBw
  obtain ⟨k0, k1, k2, k3⟩ := KEEP.out _ (Below.refl _ _)
  go_wp2_with fail
  go_region_held (fun w' => w'.cell? ⟨w.heap.size, 0, none⟩ = some (.int .i64 rn) ∧ w'.cell? ⟨w.heap.size, 1, none⟩ = some (.int .i64 rd) ∧ w'.cell? ⟨w.heap.size, 2, none⟩ = some (.int .i64 ln) ∧ w'.cell? ⟨w.heap.size, 3, none⟩ = some (.int .i64 ld))
    ((first | exact KEEP.out _ cum2 | exact KEEP.out _ cum1 | exact KEEP.out _ (Below.refl _ _) | exact KEEP.out _ (Below.drew (Below.refl _ _)) | exact KEEP.out _ (below_new cum2 _) | exact KEEP.out _ (below_new (below_new cum2 _) _) | exact KEEP.out _ (below_new (Below.drew (Below.refl _ _)) _) | (refine KEEP.out _ ?_; have qq := cum2; (repeat' (first | (with_reducible exact Below.refl _ _) | (with_reducible assumption) | (with_reducible apply Below.setCell) | (with_reducible apply Below.alloc) | (with_reducible apply Below.drew) | (with_reducible apply below_drewN) | (with_reducible refine Below.trans ?_ (Below.mono (by assumption) ?_)) | omega | (simp; done) | (simp; omega))); done) | (refine KEEP.out _ ?_; (repeat' (first | (with_reducible exact Below.refl _ _) | (with_reducible assumption) | (with_reducible apply Below.setCell) | (with_reducible apply Below.alloc) | (with_reducible apply Below.drew) | (with_reducible apply below_drewN) | (with_reducible refine Below.trans ?_ (Below.mono (by assumption) ?_)) | omega | (simp; done) | (simp; omega))); done) | (obtain ⟨j0, j1, j2, j3⟩ := KEEP.out _ cum2; refine ⟨?_, ?_, ?_, ?_⟩ <;> simp [go_sem, *]; done) | go_keep))
    ((first
      | (go_at_call 20; refine (CCH.out _).mono ?_; rintro E1 v1 ⟨rfl, l1⟩; have cum1 : Below (w2.alloc (.cells #[.int .i64 (h1), .int .i64 (h2)] 25)).heap.size (w2.alloc (.cells #[.int .i64 (h1), .int .i64 (h2)] 25)) v1 := (by first | exact below_step (Below.drew (Below.refl _ _)) l1 | exact below_step (Below.refl _ _) l1 | (refine below_step ?_ l1; (repeat' (first | (with_reducible exact Below.refl _ _) | (with_reducible assumption) | (with_reducible apply Below.setCell) | (with_reducible apply Below.alloc) | (with_reducible apply Below.drew) | (with_reducible apply below_drewN) | (with_reducible refine Below.trans ?_ (Below.mono (by assumption) ?_)) | omega | (simp; done) | (simp; omega))))); have cz1 := Below.size cum1)
      | (go_at_call 21; refine (CRI.out _).mono ?_; rintro E2 v2 ⟨rfl, l2⟩; have cum2 : Below (w2.alloc (.cells #[.int .i64 (h1), .int .i64 (h2)] 25)).heap.size (w2.alloc (.cells #[.int .i64 (h1), .int .i64 (h2)] 25)) v2 := (by first | exact below_step cum1 l2 | (refine below_step ?_ l2; have qq := cum1; (repeat' (first | (with_reducible exact Below.refl _ _) | (with_reducible assumption) | (with_reducible apply Below.setCell) | (with_reducible apply Below.alloc) | (with_reducible apply Below.drew) | (with_reducible apply below_drewN) | (with_reducible refine Below.trans ?_ (Below.mono (by assumption) ?_)) | omega | (simp; done) | (simp; omega))))); have cz2 := Below.size cum2)))
  have X3 := hidd (HX.out.step cum2)
  clear k0 k1 k2 k3 KEEP OUT HX hx2 cum1 cum2 cz1 cz2 l1 l2
  obtain ⟨⟨-, ⟨m0, m1⟩, m2, m3⟩, ⟨n0, n1, n2⟩, -, -, -⟩ := X3.out
  go_wp2_with fail
  refine (CBE.out _).mono ?_
  rintro e w4 ⟨rfl, hb4⟩
  obtain ⟨⟨z0, -⟩, ⟨-, -, z1⟩, ⟨-, -, z2⟩, ⟨-, -, z3⟩, zb⟩ := X3.out.step hb4
  have z4 := zb.size
  clear zb
  have X4 := hidd ((X3.out.step hb4).past (.cells #[.int .i64 0, .int .i64 0] 25))
  clear m0 m1 m2 m3 n0 n1 n2 X3 hb4
  obtain ⟨⟨-, ⟨m0, m1⟩, m2, m3⟩, ⟨n0, n1, n2⟩, -, -, -⟩ := X4.out
  go_wp2_with fail
  refine (CRI.out _).mono ?_
  rintro e w5 ⟨rfl, hb5⟩
  have X5 := hidd (X4.out.step hb5)
  have G5 := hidd ((GBox.new (w := w4) rfl 25 0 0).step hb5)
  clear m0 m1 m2 m3 n0 n1 n2 X4 hb5
  obtain ⟨⟨-, ⟨m0, m1⟩, m2, m3⟩, ⟨n0, n1, n2⟩, -, -, -⟩ := X5.out
  go_wp2_with fail
  have y8 : w4.heap.size < w5.heap.size := by have q := G5.out.1; simpa using q
  have X8 := hidd (X5.out.past (.cells #[.int .i64 0, .int .i64 0] 25))
  have G8 := hidd (G5.out.past (.cells #[.int .i64 0, .int .i64 0] 25))
  have E8 := hidd (GBox.new (w := w5) (b := w5.heap.size) (by first | rfl | simp) 25 0 0)
  refine (CRC.out _ (HL.out.below X8.out.2.2.2.2)).mono ?_
  rintro e w9 ⟨RR, rfl, hRR, hb9⟩
  obtain rfl : RR = true := hRR.2 (by first | exact HR.out.1 rfl | exact HR.out.1 trivial)
  have X9 := hidd (X8.out.step hb9)
  have G9 := hidd (G8.out.step hb9)
  have E9 := hidd (E8.out.step hb9)
  clear hRR hb9 X8 G8 E8 X5 G5 m0 m1 m2 m3 n0 n1 n2
  obtain ⟨⟨-, ⟨m0, m1⟩, m2, m3⟩, ⟨n0, n1, n2⟩, ⟨x0, x1, x2⟩, ⟨y0, y1, y2⟩, -⟩ := X9.out
  obtain ⟨g0, g1, g2, g3, g4⟩ := G9.out
  obtain ⟨e0, e1, e2, e3, e4⟩ := E9.out
  go_wp2_with fail
  refine (CHR.out _ (HL.out.below X9.out.2.2.2.2)).mono ?_
  rintro e wa ⟨rfl, hba⟩
  have Xa := hidd (X9.out.step hba)
  have Ga := hidd (G9.out.step hba)
  have Ea := hidd (E9.out.step hba)
  clear X9 G9 E9 hba m0 m1 m2 m3 n0 n1 n2 x0 x1 x2 y0 y1 y2 g0 g1 g2 g3 g4 e0 e1 e2 e3 e4
  go_wp2_with fail
  refine (CNH.out _).mono ?_
  rintro e wb ⟨rfl, hbb⟩
  have Xb := hidd (Xa.out.step hbb)
  have Gb := hidd (Ga.out.step hbb)
  have Eb := hidd (Ea.out.step hbb)
  clear Xa Ga Ea hbb
  obtain ⟨⟨-, ⟨m0, m1⟩, m2, m3⟩, ⟨n0, n1, n2⟩, ⟨x0, x1, x2⟩, ⟨y0, y1, y2⟩, -⟩ := Xb.out
  have v1 : ¬ w1.heap.size = w5.heap.size := by omega
  have v2 : ¬ w2.heap.size = w5.heap.size := by omega
  have v3 : ¬ w4.heap.size = w5.heap.size := by omega
  have Xp := hidd (Xb.out.put (t := w5.heap.size) (by omega) (by omega) (by omega) (by omega) (by omega) h1 h2)
  have Gp := hidd (Gb.out.kq (((Below.refl w5.heap.size wb).setCell (p := ⟨w5.heap.size, 0, none⟩) (Nat.le_refl _) (.int .i64 h1)).setCell (p := ⟨w5.heap.size, 1, none⟩) (Nat.le_refl _) (.int .i64 h2)) y8)
  have Ep := hidd (Eb.out.put h1 h2)
  obtain ⟨g0, g1, g2, g3, g4⟩ := Gb.out
  obtain ⟨e0, e1, e2, e3, e4⟩ := Eb.out
  go_wp2_with fail
  refine (T1.out _).mono ?_
  rintro e wc ⟨rfl, hbc⟩
  have Xc := hidd (Xp.out.step hbc)
  have Gc := hidd (Gp.out.step hbc)
  have Ec := hidd (Ep.out.step hbc)
  clear Xp Gp Ep Xb Gb Eb hbc m0 m1 m2 m3 n0 n1 n2 x0 x1 x2 y0 y1 y2 g0 g1 g2 g3 g4 e0 e1 e2 e3 e4
  obtain ⟨-, -, ⟨x0, x1, x2⟩, ⟨y0, y1, y2⟩, -⟩ := Xc.out
  obtain ⟨g0, g1, g2, g3, g4⟩ := Gc.out
  obtain ⟨e0, e1, e2, e3, e4⟩ := Ec.out
  go_wp2_with fail
  refine (T2.out _).mono ?_
  rintro e wd ⟨rfl, hbd⟩
  have HBd := hidd (below_step Xc.out.2.2.2.2 hbd)
  clear Xc Gc Ec hbd x0 x1 x2 y0 y1 y2 g0 g1 g2 g3 g4 e0 e1 e2 e3 e4
  go_wp2_with fail
  refine (ck.out _).mono ?_
  rintro e we ⟨rfl, hbe⟩
  have HBe := hidd (below_step HBd.out hbe)
  clear HBd hbe
  go_wp2_with fail
  go_ret
  exact ⟨by first | rfl | simp, by have q := HBe.out; (repeat' (first | (with_reducible exact Below.refl _ _) | (with_reducible assumption) | (with_reducible apply Below.setCell) | (with_reducible apply Below.alloc) | (with_reducible apply Below.drew) | (with_reducible apply below_drewN) | (with_reducible refine Below.trans ?_ (Below.mono (by assumption) ?_)) | omega | (simp; done) | (simp; omega)))⟩
set_option maxRecDepth 100000 in
set_option maxHeartbeats 8000000 in
theorem serves_100 (A : Option Addr) (L : List (Int × Int)) (c : Nat) (rn rd ln ld n d : Int) (hc : L.length ≤ c) (hcm : c ≤ maxLen) (hw : Word4 rn rd ln ld) (hn : (-9223372036854775808 ≤ n ∧ n ≤ 9223372036854775807) ∧ -9223372036854775808 ≤ d ∧ d ≤ 9223372036854775807) (hl40 : ¬ L.length > 40) (hS : servB rn rd ln ld = true) (hB : withB n d 2147483647 = false) (hR : false = true ↔ Zp.RgtC L) (w : World) (hl : Zp.Lie Zp.sendV 2 w w.heap.size A L) :
    Calls Tryz.prog 4 #[.slice A L.length c, .agg #[.int .i64 rn, .int .i64 rd, .int .i64 ln, .int .i64 ld], .agg #[.int .i64 n, .int .i64 d]] w fun e w' => e = .returned (.bool true) ∧ Below w.heap.size w w' := by
  have HL := hidd hl
  have ck := hidd (fun W => known4_any W)
  have cAt := fun W => At_any rn rd ln ld n d hw hn W
  have cHi := fun W (h : Zp.Lie Zp.sendV 2 W W.heap.size A L) => High_any false A L c (by omega) hR hc hcm n d hn W h
  have cCh := fun W => minCheck_any rn rd ln ld hw W
  have cRi := fun W => refRight4 rn rd ln ld hw W
  have cBe := fun W => between_any n d 2147483647 hn.1.1 hn.1.2 hn.2.1 hn.2.2 (by decide) (by decide) W
  rw [hS] at cCh cRi
  rw [hB] at cBe
  rw [if_pos rfl] at cCh
  have cRc := fun W (h : Zp.Lie Zp.sendV 2 W W.heap.size A L) => Zp.right3_any A L c (by omega) W h
  have eS : servM rn rd ln ld n d = (0, 0, 2) := by unfold servM; rw [hS, hB]; rfl
  rw [eS] at cAt
  clear eS
  have eH : highM false L n d = (0, 0, 2) := by unfold highM; rfl
  rw [eH] at cHi
  clear eH
  unfold pairOf at cAt cHi
  dsimp only at cAt cHi
  have CAT := hidd cAt
  have CHI := hidd cHi
  have CCH := hidd cCh
  have CRI := hidd cRi
  have CBE := hidd cBe
  have CRC := hidd cRc
  have HR := hidd hR
  have T1 := hidd (fun W => told_same4 (0) (0) (2) W)
  have T2 := hidd (fun W => told_same4 (0) (0) (2) W)
  have HS0 := hidd ((HasServ.new w rn rd ln ld 27).step ((Below.refl _ _).alloc (Nat.le_refl _) (.cells #[.int .i64 n, .int .i64 d] 25)))
  have HN0 := hidd (HasRat.new (w.alloc (.cells #[.int .i64 rn, .int .i64 rd, .int .i64 ln, .int .i64 ld] 27)) n d 25)
  have HB0 := hidd (show Below w.heap.size w ((w.alloc (.cells #[.int .i64 rn, .int .i64 rd, .int .i64 ln, .int .i64 ld] 27)).alloc (.cells #[.int .i64 n, .int .i64 d] 25)) by (repeat' (first | (with_reducible exact Below.refl _ _) | (with_reducible assumption) | (with_reducible apply Below.setCell) | (with_reducible apply Below.alloc) | (with_reducible apply Below.drew) | (with_reducible apply below_drewN) | (with_reducible refine Below.trans ?_ (Below.mono (by assumption) ?_)) | omega | (simp; done) | (simp; omega))))
  have h40 : decide ((L.length : Int) > 40) = false := decide_eq_false (by omega)
  clear cAt cHi cCh cRi cBe cRc hl hR hw hn hS hB hl40 hc hcm
  go_enter Tryz.func4, Tryz.ntmps4
  go_wp2_with fail
  refine (CAT.out _).mono ?_
  rintro e w1 ⟨rfl, hb1⟩
  have HS1 := hidd (HS0.out.step hb1)
  have HN1 := hidd (show HasRat w1 (w.heap.size + 1) n d from by have q := HN0.out.step hb1; simpa using q)
  have HB1 := hidd (below_step HB0.out hb1)
  clear HS0 HN0 HB0 hb1
  obtain ⟨n0, n1, n2⟩ := HN1.out
  go_wp2_with fail
  refine (CHI.out _ (HL.out.below (by have q := HB1.out; (repeat' (first | (with_reducible exact Below.refl _ _) | (with_reducible assumption) | (with_reducible apply Below.setCell) | (with_reducible apply Below.alloc) | (with_reducible apply Below.drew) | (with_reducible apply below_drewN) | (with_reducible refine Below.trans ?_ (Below.mono (by assumption) ?_)) | omega | (simp; done) | (simp; omega)))))).mono ?_
  rintro e w2 ⟨rfl, hb2⟩
  have hx2 := hb2.size
  have HX := hidd (show Srv w (w2.alloc (.cells #[.int .i64 (0), .int .i64 (0)] 25)) w.heap.size (w.heap.size + 1) w1.heap.size w2.heap.size rn rd ln ld n d (0) (0) (0) (0) from
    ⟨((HS1.out.step ((Below.refl _ _).alloc (Nat.le_refl _) _)).step hb2).step ((Below.refl _ _).alloc (Nat.le_refl _) _), ((HN1.out.past _).step hb2).past _, ((HasRat.new w1 (0) (0) 25).step hb2).past _, HasRat.new w2 (0) (0) 25, below_new (below_step (below_new HB1.out _) hb2) _⟩)
  clear HS1 HN1 HB1 hb2 n0 n1 n2
  obtain ⟨⟨dd, ⟨q0, q1⟩, q2, q3⟩, -, -, -, hBw⟩ := HX.out
  have d0 := dd
  have d1 := dd
  have d2 := dd
  have d3 := dd
  have KEEP := hidd (fun (w' : World) (hb : Below (w2.alloc (.cells #[.int .i64 (0), .int .i64 (0)] 25)).heap.size (w2.alloc (.cells #[.int .i64 (0), .int .i64 (0)] 25)) w') => (show w'.cell? ⟨w.heap.size, 0, none⟩ = some (.int .i64 rn) ∧ w'.cell? ⟨w.heap.size, 1, none⟩ = some (.int .i64 rd) ∧ w'.cell? ⟨w.heap.size, 2, none⟩ = some (.int .i64 ln) ∧ w'.cell? ⟨w.heap.size, 3, none⟩ = some (.int .i64 ld) from ⟨(hb.cell (p := ⟨w.heap.size, 0, none⟩) d0).trans q0, (hb.cell (p := ⟨w.heap.size, 1, none⟩) d1).trans q1, (hb.cell (p := ⟨w.heap.size, 2, none⟩) d2).trans q2, (hb.cell (p := ⟨w.heap.size, 3, none⟩) d3).trans q3⟩))
  have OUT := hidd (fun (w' : World) (hb : Below (w2.alloc (.cells #[.int .i64 (0), .int .i64 (0)] 25)).heap.size (w2.alloc (.cells #[.int .i64 (0), .int .i64 (0)] 25)) w') => (show True ∧ True ∧ True ∧ Below w.heap.size w w' from ⟨trivial, trivial, trivial, below_step hBw hb⟩))
  clear dd d0 d1 d2 d3 q0 q1 q2 q3 hBw
  obtain ⟨k0, k1, k2, k3⟩ := KEEP.out _ (Below.refl _ _)
  go_wp2_with fail
  go_region_held (fun w' => w'.cell? ⟨w.heap.size, 0, none⟩ = some (.int .i64 rn) ∧ w'.cell? ⟨w.heap.size, 1, none⟩ = some (.int .i64 rd) ∧ w'.cell? ⟨w.heap.size, 2, none⟩ = some (.int .i64 ln) ∧ w'.cell? ⟨w.heap.size, 3, none⟩ = some (.int .i64 ld))
    ((first | exact KEEP.out _ cum2 | exact KEEP.out _ cum1 | exact KEEP.out _ (Below.refl _ _) | exact KEEP.out _ (Below.drew (Below.refl _ _)) | exact KEEP.out _ (below_new cum2 _) | exact KEEP.out _ (below_new (below_new cum2 _) _) | exact KEEP.out _ (below_new (Below.drew (Below.refl _ _)) _) | (refine KEEP.out _ ?_; have qq := cum2; (repeat' (first | (with_reducible exact Below.refl _ _) | (with_reducible assumption) | (with_reducible apply Below.setCell) | (with_reducible apply Below.alloc) | (with_reducible apply Below.drew) | (with_reducible apply below_drewN) | (with_reducible refine Below.trans ?_ (Below.mono (by assumption) ?_)) | omega | (simp; done) | (simp; omega))); done) | (refine KEEP.out _ ?_; (repeat' (first | (with_reducible exact Below.refl _ _) | (with_reducible assumption) | (with_reducible apply Below.setCell) | (with_reducible apply Below.alloc) | (with_reducible apply Below.drew) | (with_reducible apply below_drewN) | (with_reducible refine Below.trans ?_ (Below.mono (by assumption) ?_)) | omega | (simp; done) | (simp; omega))); done) | (obtain ⟨j0, j1, j2, j3⟩ := KEEP.out _ cum2; refine ⟨?_, ?_, ?_, ?_⟩ <;> simp [go_sem, *]; done) | go_keep))
    ((first
      | (go_at_call 20; refine (CCH.out _).mono ?_; rintro E1 v1 ⟨rfl, l1⟩; have cum1 : Below (w2.alloc (.cells #[.int .i64 (0), .int .i64 (0)] 25)).heap.size (w2.alloc (.cells #[.int .i64 (0), .int .i64 (0)] 25)) v1 := (by first | exact below_step (Below.drew (Below.refl _ _)) l1 | exact below_step (Below.refl _ _) l1 | (refine below_step ?_ l1; (repeat' (first | (with_reducible exact Below.refl _ _) | (with_reducible assumption) | (with_reducible apply Below.setCell) | (with_reducible apply Below.alloc) | (with_reducible apply Below.drew) | (with_reducible apply below_drewN) | (with_reducible refine Below.trans ?_ (Below.mono (by assumption) ?_)) | omega | (simp; done) | (simp; omega))))); have cz1 := Below.size cum1)
      | (go_at_call 21; refine (CRI.out _).mono ?_; rintro E2 v2 ⟨rfl, l2⟩; have cum2 : Below (w2.alloc (.cells #[.int .i64 (0), .int .i64 (0)] 25)).heap.size (w2.alloc (.cells #[.int .i64 (0), .int .i64 (0)] 25)) v2 := (by first | exact below_step cum1 l2 | (refine below_step ?_ l2; have qq := cum1; (repeat' (first | (with_reducible exact Below.refl _ _) | (with_reducible assumption) | (with_reducible apply Below.setCell) | (with_reducible apply Below.alloc) | (with_reducible apply Below.drew) | (with_reducible apply below_drewN) | (with_reducible refine Below.trans ?_ (Below.mono (by assumption) ?_)) | omega | (simp; done) | (simp; omega))))); have cz2 := Below.size cum2)))
  have X3 := hidd (HX.out.step cum2)
  clear k0 k1 k2 k3 KEEP OUT HX hx2 cum1 cum2 cz1 cz2 l1 l2
  obtain ⟨⟨-, ⟨m0, m1⟩, m2, m3⟩, ⟨n0, n1, n2⟩, -, -, -⟩ := X3.out
  go_wp2_with fail
  refine (CBE.out _).mono ?_
  rintro e w4 ⟨rfl, hb4⟩
  obtain ⟨⟨z0, -⟩, ⟨-, -, z1⟩, ⟨-, -, z2⟩, ⟨-, -, z3⟩, zb⟩ := X3.out.step hb4
  have z4 := zb.size
  clear zb
  have X4 := hidd ((X3.out.step hb4).past (.cells #[.int .i64 0, .int .i64 0] 25))
  clear m0 m1 m2 m3 n0 n1 n2 X3 hb4
  obtain ⟨⟨-, ⟨m0, m1⟩, m2, m3⟩, ⟨n0, n1, n2⟩, -, -, -⟩ := X4.out
  go_wp2_with fail
  refine (CRI.out _).mono ?_
  rintro e w5 ⟨rfl, hb5⟩
  have X5 := hidd (X4.out.step hb5)
  have G5 := hidd ((GBox.new (w := w4) rfl 25 0 0).step hb5)
  clear m0 m1 m2 m3 n0 n1 n2 X4 hb5
  obtain ⟨⟨-, ⟨m0, m1⟩, m2, m3⟩, ⟨n0, n1, n2⟩, -, -, -⟩ := X5.out
  go_wp2_with fail
  have y8 : w4.heap.size < w5.heap.size := by have q := G5.out.1; simpa using q
  have X8 := hidd (X5.out.past (.cells #[.int .i64 0, .int .i64 0] 25))
  have G8 := hidd (G5.out.past (.cells #[.int .i64 0, .int .i64 0] 25))
  have E8 := hidd (GBox.new (w := w5) (b := w5.heap.size) (by first | rfl | simp) 25 0 0)
  refine (CRC.out _ (HL.out.below X8.out.2.2.2.2)).mono ?_
  rintro e w9 ⟨RR, rfl, hRR, hb9⟩
  obtain rfl : RR = false := by cases RR; rfl; exact absurd (HR.out.2 (hRR.1 rfl)) (by simp)
  have X9 := hidd (X8.out.step hb9)
  have G9 := hidd (G8.out.step hb9)
  have E9 := hidd (E8.out.step hb9)
  clear hRR hb9 X8 G8 E8 X5 G5 m0 m1 m2 m3 n0 n1 n2
  obtain ⟨⟨-, ⟨m0, m1⟩, m2, m3⟩, ⟨n0, n1, n2⟩, ⟨x0, x1, x2⟩, ⟨y0, y1, y2⟩, -⟩ := X9.out
  obtain ⟨g0, g1, g2, g3, g4⟩ := G9.out
  obtain ⟨e0, e1, e2, e3, e4⟩ := E9.out
  go_wp2_with fail
  refine (T1.out _).mono ?_
  rintro e wc ⟨rfl, hbc⟩
  have Xc := hidd (X9.out.step hbc)
  have Gc := hidd (G9.out.step hbc)
  have Ec := hidd (E9.out.step hbc)
  clear X9 G9 E9 hbc m0 m1 m2 m3 n0 n1 n2 x0 x1 x2 y0 y1 y2 g0 g1 g2 g3 g4 e0 e1 e2 e3 e4
  obtain ⟨-, -, ⟨x0, x1, x2⟩, ⟨y0, y1, y2⟩, -⟩ := Xc.out
  obtain ⟨g0, g1, g2, g3, g4⟩ := Gc.out
  obtain ⟨e0, e1, e2, e3, e4⟩ := Ec.out
  go_wp2_with fail
  refine (T2.out _).mono ?_
  rintro e wd ⟨rfl, hbd⟩
  have HBd := hidd (below_step Xc.out.2.2.2.2 hbd)
  clear Xc Gc Ec hbd x0 x1 x2 y0 y1 y2 g0 g1 g2 g3 g4 e0 e1 e2 e3 e4
  go_wp2_with fail
  refine (ck.out _).mono ?_
  rintro e we ⟨rfl, hbe⟩
  have HBe := hidd (below_step HBd.out hbe)
  clear HBd hbe
  go_wp2_with fail
  go_ret
  exact ⟨by first | rfl | simp, by have q := HBe.out; (repeat' (first | (with_reducible exact Below.refl _ _) | (with_reducible assumption) | (with_reducible apply Below.setCell) | (with_reducible apply Below.alloc) | (with_reducible apply Below.drew) | (with_reducible apply below_drewN) | (with_reducible refine Below.trans ?_ (Below.mono (by assumption) ?_)) | omega | (simp; done) | (simp; omega)))⟩
set_option maxRecDepth 100000 in
set_option maxHeartbeats 8000000 in
theorem serves_101 (A : Option Addr) (L : List (Int × Int)) (c : Nat) (rn rd ln ld n d : Int) (hc : L.length ≤ c) (hcm : c ≤ maxLen) (hw : Word4 rn rd ln ld) (hn : (-9223372036854775808 ≤ n ∧ n ≤ 9223372036854775807) ∧ -9223372036854775808 ≤ d ∧ d ≤ 9223372036854775807) (hl40 : ¬ L.length > 40) (hS : servB rn rd ln ld = true) (hB : withB n d 2147483647 = false) (hR : true = true ↔ Zp.RgtC L) (w : World) (hl : Zp.Lie Zp.sendV 2 w w.heap.size A L) :
    Calls Tryz.prog 4 #[.slice A L.length c, .agg #[.int .i64 rn, .int .i64 rd, .int .i64 ln, .int .i64 ld], .agg #[.int .i64 n, .int .i64 d]] w fun e w' => e = .returned (.bool true) ∧ Below w.heap.size w w' := by
  have HL := hidd hl
  have ck := hidd (fun W => known4_any W)
  have cAt := fun W => At_any rn rd ln ld n d hw hn W
  have cHi := fun W (h : Zp.Lie Zp.sendV 2 W W.heap.size A L) => High_any true A L c (by omega) hR hc hcm n d hn W h
  have cCh := fun W => minCheck_any rn rd ln ld hw W
  have cRi := fun W => refRight4 rn rd ln ld hw W
  have cBe := fun W => between_any n d 2147483647 hn.1.1 hn.1.2 hn.2.1 hn.2.2 (by decide) (by decide) W
  rw [hS] at cCh cRi
  rw [hB] at cBe
  rw [if_pos rfl] at cCh
  have cRc := fun W (h : Zp.Lie Zp.sendV 2 W W.heap.size A L) => Zp.right3_any A L c (by omega) W h
  have eS : servM rn rd ln ld n d = (0, 0, 2) := by unfold servM; rw [hS, hB]; rfl
  rw [eS] at cAt
  clear eS
  have eH : highM true L n d = (0, 0, 2) := by unfold highM; rw [hB]; rfl
  rw [eH] at cHi
  clear eH
  unfold pairOf at cAt cHi
  dsimp only at cAt cHi
  have CAT := hidd cAt
  have CHI := hidd cHi
  have CCH := hidd cCh
  have CRI := hidd cRi
  have CBE := hidd cBe
  have CRC := hidd cRc
  have HR := hidd hR
  have T1 := hidd (fun W => told_same4 (0) (0) (2) W)
  have T2 := hidd (fun W => told_same4 (0) (0) (2) W)
  have HS0 := hidd ((HasServ.new w rn rd ln ld 27).step ((Below.refl _ _).alloc (Nat.le_refl _) (.cells #[.int .i64 n, .int .i64 d] 25)))
  have HN0 := hidd (HasRat.new (w.alloc (.cells #[.int .i64 rn, .int .i64 rd, .int .i64 ln, .int .i64 ld] 27)) n d 25)
  have HB0 := hidd (show Below w.heap.size w ((w.alloc (.cells #[.int .i64 rn, .int .i64 rd, .int .i64 ln, .int .i64 ld] 27)).alloc (.cells #[.int .i64 n, .int .i64 d] 25)) by (repeat' (first | (with_reducible exact Below.refl _ _) | (with_reducible assumption) | (with_reducible apply Below.setCell) | (with_reducible apply Below.alloc) | (with_reducible apply Below.drew) | (with_reducible apply below_drewN) | (with_reducible refine Below.trans ?_ (Below.mono (by assumption) ?_)) | omega | (simp; done) | (simp; omega))))
  have h40 : decide ((L.length : Int) > 40) = false := decide_eq_false (by omega)
  clear cAt cHi cCh cRi cBe cRc hl hR hw hn hS hB hl40 hc hcm
  go_enter Tryz.func4, Tryz.ntmps4
  go_wp2_with fail
  refine (CAT.out _).mono ?_
  rintro e w1 ⟨rfl, hb1⟩
  have HS1 := hidd (HS0.out.step hb1)
  have HN1 := hidd (show HasRat w1 (w.heap.size + 1) n d from by have q := HN0.out.step hb1; simpa using q)
  have HB1 := hidd (below_step HB0.out hb1)
  clear HS0 HN0 HB0 hb1
  obtain ⟨n0, n1, n2⟩ := HN1.out
  go_wp2_with fail
  refine (CHI.out _ (HL.out.below (by have q := HB1.out; (repeat' (first | (with_reducible exact Below.refl _ _) | (with_reducible assumption) | (with_reducible apply Below.setCell) | (with_reducible apply Below.alloc) | (with_reducible apply Below.drew) | (with_reducible apply below_drewN) | (with_reducible refine Below.trans ?_ (Below.mono (by assumption) ?_)) | omega | (simp; done) | (simp; omega)))))).mono ?_
  rintro e w2 ⟨rfl, hb2⟩
  have hx2 := hb2.size
  have HX := hidd (show Srv w (w2.alloc (.cells #[.int .i64 (0), .int .i64 (0)] 25)) w.heap.size (w.heap.size + 1) w1.heap.size w2.heap.size rn rd ln ld n d (0) (0) (0) (0) from
    ⟨((HS1.out.step ((Below.refl _ _).alloc (Nat.le_refl _) _)).step hb2).step ((Below.refl _ _).alloc (Nat.le_refl _) _), ((HN1.out.past _).step hb2).past _, ((HasRat.new w1 (0) (0) 25).step hb2).past _, HasRat.new w2 (0) (0) 25, below_new (below_step (below_new HB1.out _) hb2) _⟩)
  clear HS1 HN1 HB1 hb2 n0 n1 n2
  obtain ⟨⟨dd, ⟨q0, q1⟩, q2, q3⟩, -, -, -, hBw⟩ := HX.out
  have d0 := dd
  have d1 := dd
  have d2 := dd
  have d3 := dd
  have KEEP := hidd (fun (w' : World) (hb : Below (w2.alloc (.cells #[.int .i64 (0), .int .i64 (0)] 25)).heap.size (w2.alloc (.cells #[.int .i64 (0), .int .i64 (0)] 25)) w') => (show w'.cell? ⟨w.heap.size, 0, none⟩ = some (.int .i64 rn) ∧ w'.cell? ⟨w.heap.size, 1, none⟩ = some (.int .i64 rd) ∧ w'.cell? ⟨w.heap.size, 2, none⟩ = some (.int .i64 ln) ∧ w'.cell? ⟨w.heap.size, 3, none⟩ = some (.int .i64 ld) from ⟨(hb.cell (p := ⟨w.heap.size, 0, none⟩) d0).trans q0, (hb.cell (p := ⟨w.heap.size, 1, none⟩) d1).trans q1, (hb.cell (p := ⟨w.heap.size, 2, none⟩) d2).trans q2, (hb.cell (p := ⟨w.heap.size, 3, none⟩) d3).trans q3⟩))
  have OUT := hidd (fun (w' : World) (hb : Below (w2.alloc (.cells #[.int .i64 (0), .int .i64 (0)] 25)).heap.size (w2.alloc (.cells #[.int .i64 (0), .int .i64 (0)] 25)) w') => (show True ∧ True ∧ True ∧ Below w.heap.size w w' from ⟨trivial, trivial, trivial, below_step hBw hb⟩))
  clear dd d0 d1 d2 d3 q0 q1 q2 q3 hBw
  obtain ⟨k0, k1, k2, k3⟩ := KEEP.out _ (Below.refl _ _)
  go_wp2_with fail
  go_region_held (fun w' => w'.cell? ⟨w.heap.size, 0, none⟩ = some (.int .i64 rn) ∧ w'.cell? ⟨w.heap.size, 1, none⟩ = some (.int .i64 rd) ∧ w'.cell? ⟨w.heap.size, 2, none⟩ = some (.int .i64 ln) ∧ w'.cell? ⟨w.heap.size, 3, none⟩ = some (.int .i64 ld))
    ((first | exact KEEP.out _ cum2 | exact KEEP.out _ cum1 | exact KEEP.out _ (Below.refl _ _) | exact KEEP.out _ (Below.drew (Below.refl _ _)) | exact KEEP.out _ (below_new cum2 _) | exact KEEP.out _ (below_new (below_new cum2 _) _) | exact KEEP.out _ (below_new (Below.drew (Below.refl _ _)) _) | (refine KEEP.out _ ?_; have qq := cum2; (repeat' (first | (with_reducible exact Below.refl _ _) | (with_reducible assumption) | (with_reducible apply Below.setCell) | (with_reducible apply Below.alloc) | (with_reducible apply Below.drew) | (with_reducible apply below_drewN) | (with_reducible refine Below.trans ?_ (Below.mono (by assumption) ?_)) | omega | (simp; done) | (simp; omega))); done) | (refine KEEP.out _ ?_; (repeat' (first | (with_reducible exact Below.refl _ _) | (with_reducible assumption) | (with_reducible apply Below.setCell) | (with_reducible apply Below.alloc) | (with_reducible apply Below.drew) | (with_reducible apply below_drewN) | (with_reducible refine Below.trans ?_ (Below.mono (by assumption) ?_)) | omega | (simp; done) | (simp; omega))); done) | (obtain ⟨j0, j1, j2, j3⟩ := KEEP.out _ cum2; refine ⟨?_, ?_, ?_, ?_⟩ <;> simp [go_sem, *]; done) | go_keep))
    ((first
      | (go_at_call 20; refine (CCH.out _).mono ?_; rintro E1 v1 ⟨rfl, l1⟩; have cum1 : Below (w2.alloc (.cells #[.int .i64 (0), .int .i64 (0)] 25)).heap.size (w2.alloc (.cells #[.int .i64 (0), .int .i64 (0)] 25)) v1 := (by first | exact below_step (Below.drew (Below.refl _ _)) l1 | exact below_step (Below.refl _ _) l1 | (refine below_step ?_ l1; (repeat' (first | (with_reducible exact Below.refl _ _) | (with_reducible assumption) | (with_reducible apply Below.setCell) | (with_reducible apply Below.alloc) | (with_reducible apply Below.drew) | (with_reducible apply below_drewN) | (with_reducible refine Below.trans ?_ (Below.mono (by assumption) ?_)) | omega | (simp; done) | (simp; omega))))); have cz1 := Below.size cum1)
      | (go_at_call 21; refine (CRI.out _).mono ?_; rintro E2 v2 ⟨rfl, l2⟩; have cum2 : Below (w2.alloc (.cells #[.int .i64 (0), .int .i64 (0)] 25)).heap.size (w2.alloc (.cells #[.int .i64 (0), .int .i64 (0)] 25)) v2 := (by first | exact below_step cum1 l2 | (refine below_step ?_ l2; have qq := cum1; (repeat' (first | (with_reducible exact Below.refl _ _) | (with_reducible assumption) | (with_reducible apply Below.setCell) | (with_reducible apply Below.alloc) | (with_reducible apply Below.drew) | (with_reducible apply below_drewN) | (with_reducible refine Below.trans ?_ (Below.mono (by assumption) ?_)) | omega | (simp; done) | (simp; omega))))); have cz2 := Below.size cum2)))
  have X3 := hidd (HX.out.step cum2)
  clear k0 k1 k2 k3 KEEP OUT HX hx2 cum1 cum2 cz1 cz2 l1 l2
  obtain ⟨⟨-, ⟨m0, m1⟩, m2, m3⟩, ⟨n0, n1, n2⟩, -, -, -⟩ := X3.out
  go_wp2_with fail
  refine (CBE.out _).mono ?_
  rintro e w4 ⟨rfl, hb4⟩
  obtain ⟨⟨z0, -⟩, ⟨-, -, z1⟩, ⟨-, -, z2⟩, ⟨-, -, z3⟩, zb⟩ := X3.out.step hb4
  have z4 := zb.size
  clear zb
  have X4 := hidd ((X3.out.step hb4).past (.cells #[.int .i64 0, .int .i64 0] 25))
  clear m0 m1 m2 m3 n0 n1 n2 X3 hb4
  obtain ⟨⟨-, ⟨m0, m1⟩, m2, m3⟩, ⟨n0, n1, n2⟩, -, -, -⟩ := X4.out
  go_wp2_with fail
  refine (CRI.out _).mono ?_
  rintro e w5 ⟨rfl, hb5⟩
  have X5 := hidd (X4.out.step hb5)
  have G5 := hidd ((GBox.new (w := w4) rfl 25 0 0).step hb5)
  clear m0 m1 m2 m3 n0 n1 n2 X4 hb5
  obtain ⟨⟨-, ⟨m0, m1⟩, m2, m3⟩, ⟨n0, n1, n2⟩, -, -, -⟩ := X5.out
  go_wp2_with fail
  have y8 : w4.heap.size < w5.heap.size := by have q := G5.out.1; simpa using q
  have X8 := hidd (X5.out.past (.cells #[.int .i64 0, .int .i64 0] 25))
  have G8 := hidd (G5.out.past (.cells #[.int .i64 0, .int .i64 0] 25))
  have E8 := hidd (GBox.new (w := w5) (b := w5.heap.size) (by first | rfl | simp) 25 0 0)
  refine (CRC.out _ (HL.out.below X8.out.2.2.2.2)).mono ?_
  rintro e w9 ⟨RR, rfl, hRR, hb9⟩
  obtain rfl : RR = true := hRR.2 (by first | exact HR.out.1 rfl | exact HR.out.1 trivial)
  have X9 := hidd (X8.out.step hb9)
  have G9 := hidd (G8.out.step hb9)
  have E9 := hidd (E8.out.step hb9)
  clear hRR hb9 X8 G8 E8 X5 G5 m0 m1 m2 m3 n0 n1 n2
  obtain ⟨⟨-, ⟨m0, m1⟩, m2, m3⟩, ⟨n0, n1, n2⟩, ⟨x0, x1, x2⟩, ⟨y0, y1, y2⟩, -⟩ := X9.out
  obtain ⟨g0, g1, g2, g3, g4⟩ := G9.out
  obtain ⟨e0, e1, e2, e3, e4⟩ := E9.out
  go_wp2_with fail
  refine (T1.out _).mono ?_
  rintro e wc ⟨rfl, hbc⟩
  have Xc := hidd (X9.out.step hbc)
  have Gc := hidd (G9.out.step hbc)
  have Ec := hidd (E9.out.step hbc)
  clear X9 G9 E9 hbc m0 m1 m2 m3 n0 n1 n2 x0 x1 x2 y0 y1 y2 g0 g1 g2 g3 g4 e0 e1 e2 e3 e4
  obtain ⟨-, -, ⟨x0, x1, x2⟩, ⟨y0, y1, y2⟩, -⟩ := Xc.out
  obtain ⟨g0, g1, g2, g3, g4⟩ := Gc.out
  obtain ⟨e0, e1, e2, e3, e4⟩ := Ec.out
  go_wp2_with fail
  refine (T2.out _).mono ?_
  rintro e wd ⟨rfl, hbd⟩
  have HBd := hidd (below_step Xc.out.2.2.2.2 hbd)
  clear Xc Gc Ec hbd x0 x1 x2 y0 y1 y2 g0 g1 g2 g3 g4 e0 e1 e2 e3 e4
  go_wp2_with fail
  refine (ck.out _).mono ?_
  rintro e we ⟨rfl, hbe⟩
  have HBe := hidd (below_step HBd.out hbe)
  clear HBd hbe
  go_wp2_with fail
  go_ret
  exact ⟨by first | rfl | simp, by have q := HBe.out; (repeat' (first | (with_reducible exact Below.refl _ _) | (with_reducible assumption) | (with_reducible apply Below.setCell) | (with_reducible apply Below.alloc) | (with_reducible apply Below.drew) | (with_reducible apply below_drewN) | (with_reducible refine Below.trans ?_ (Below.mono (by assumption) ?_)) | omega | (simp; done) | (simp; omega)))⟩
set_option maxRecDepth 100000 in
set_option maxHeartbeats 8000000 in
theorem serves_110 (A : Option Addr) (L : List (Int × Int)) (c : Nat) (rn rd ln ld n d : Int) (hc : L.length ≤ c) (hcm : c ≤ maxLen) (hw : Word4 rn rd ln ld) (hn : (-9223372036854775808 ≤ n ∧ n ≤ 9223372036854775807) ∧ -9223372036854775808 ≤ d ∧ d ≤ 9223372036854775807) (hl40 : ¬ L.length > 40) (hS : servB rn rd ln ld = true) (hB : withB n d 2147483647 = true) (hR : false = true ↔ Zp.RgtC L) (w : World) (hl : Zp.Lie Zp.sendV 2 w w.heap.size A L) :
    Calls Tryz.prog 4 #[.slice A L.length c, .agg #[.int .i64 rn, .int .i64 rd, .int .i64 ln, .int .i64 ld], .agg #[.int .i64 n, .int .i64 d]] w fun e w' => e = .returned (.bool true) ∧ Below w.heap.size w w' := by
  have HL := hidd hl
  have ck := hidd (fun W => known4_any W)
  have cAt := fun W => At_any rn rd ln ld n d hw hn W
  have cHi := fun W (h : Zp.Lie Zp.sendV 2 W W.heap.size A L) => High_any false A L c (by omega) hR hc hcm n d hn W h
  have cCh := fun W => minCheck_any rn rd ln ld hw W
  have cRi := fun W => refRight4 rn rd ln ld hw W
  have cBe := fun W => between_any n d 2147483647 hn.1.1 hn.1.2 hn.2.1 hn.2.2 (by decide) (by decide) W
  rw [hS] at cCh cRi
  rw [hB] at cBe
  rw [if_pos rfl] at cCh
  have cRc := fun W (h : Zp.Lie Zp.sendV 2 W W.heap.size A L) => Zp.right3_any A L c (by omega) W h
  have eS : servM rn rd ln ld n d = servR rn rd ln ld n d := by unfold servM; rw [hS, hB]; rfl
  have hfs := serv_fit hS hw
  have hfb := with_fit hB hn
  have cAr := fun W => refAt4 rn rd ln ld n d hfs.1.right hfs.2.1.right hfb.right W
  have tS := tells_servM (rn := rn) (rd := rd) (ln := ln) (ld := ld) hw hn
  rw [eS] at cAt tS
  generalize servR rn rd ln ld n d = S at *
  obtain ⟨s1, s2, se⟩ := S
  have cNs := fun W => num4_any s1 s2 se (NumOk.of tS) W
  unfold numV at cAr
  dsimp only at cAr
  have CAR := hidd cAr
  have CNS := hidd cNs
  clear cAr cNs eS tS hfs
  have eH : highM false L n d = (0, 0, 2) := by unfold highM; rfl
  rw [eH] at cHi
  clear eH
  clear hfb
  unfold pairOf at cAt cHi
  dsimp only at cAt cHi
  have CAT := hidd cAt
  have CHI := hidd cHi
  have CCH := hidd cCh
  have CRI := hidd cRi
  have CBE := hidd cBe
  have CRC := hidd cRc
  have HR := hidd hR
  have T1 := hidd (fun W => told_same4 (s1) (s2) (se) W)
  have T2 := hidd (fun W => told_same4 (0) (0) (2) W)
  have HS0 := hidd ((HasServ.new w rn rd ln ld 27).step ((Below.refl _ _).alloc (Nat.le_refl _) (.cells #[.int .i64 n, .int .i64 d] 25)))
  have HN0 := hidd (HasRat.new (w.alloc (.cells #[.int .i64 rn, .int .i64 rd, .int .i64 ln, .int .i64 ld] 27)) n d 25)
  have HB0 := hidd (show Below w.heap.size w ((w.alloc (.cells #[.int .i64 rn, .int .i64 rd, .int .i64 ln, .int .i64 ld] 27)).alloc (.cells #[.int .i64 n, .int .i64 d] 25)) by (repeat' (first | (with_reducible exact Below.refl _ _) | (with_reducible assumption) | (with_reducible apply Below.setCell) | (with_reducible apply Below.alloc) | (with_reducible apply Below.drew) | (with_reducible apply below_drewN) | (with_reducible refine Below.trans ?_ (Below.mono (by assumption) ?_)) | omega | (simp; done) | (simp; omega))))
  have h40 : decide ((L.length : Int) > 40) = false := decide_eq_false (by omega)
  clear cAt cHi cCh cRi cBe cRc hl hR hw hn hS hB hl40 hc hcm
  go_enter Tryz.func4, Tryz.ntmps4
  go_wp2_with fail
  refine (CAT.out _).mono ?_
  rintro e w1 ⟨rfl, hb1⟩
  have HS1 := hidd (HS0.out.step hb1)
  have HN1 := hidd (show HasRat w1 (w.heap.size + 1) n d from by have q := HN0.out.step hb1; simpa using q)
  have HB1 := hidd (below_step HB0.out hb1)
  clear HS0 HN0 HB0 hb1
  obtain ⟨n0, n1, n2⟩ := HN1.out
  go_wp2_with fail
  refine (CHI.out _ (HL.out.below (by have q := HB1.out; (repeat' (first | (with_reducible exact Below.refl _ _) | (with_reducible assumption) | (with_reducible apply Below.setCell) | (with_reducible apply Below.alloc) | (with_reducible apply Below.drew) | (with_reducible apply below_drewN) | (with_reducible refine Below.trans ?_ (Below.mono (by assumption) ?_)) | omega | (simp; done) | (simp; omega)))))).mono ?_
  rintro e w2 ⟨rfl, hb2⟩
  have hx2 := hb2.size
  have HX := hidd (show Srv w (w2.alloc (.cells #[.int .i64 (0), .int .i64 (0)] 25)) w.heap.size (w.heap.size + 1) w1.heap.size w2.heap.size rn rd ln ld n d (s1) (s2) (0) (0) from
    ⟨((HS1.out.step ((Below.refl _ _).alloc (Nat.le_refl _) _)).step hb2).step ((Below.refl _ _).alloc (Nat.le_refl _) _), ((HN1.out.past _).step hb2).past _, ((HasRat.new w1 (s1) (s2) 25).step hb2).past _, HasRat.new w2 (0) (0) 25, below_new (below_step (below_new HB1.out _) hb2) _⟩)
  clear HS1 HN1 HB1 hb2 n0 n1 n2
  obtain ⟨⟨dd, ⟨q0, q1⟩, q2, q3⟩, -, -, -, hBw⟩ := HX.out
  have d0 := dd
  have d1 := dd
  have d2 := dd
  have d3 := dd
  have KEEP := hidd (fun (w' : World) (hb : Below (w2.alloc (.cells #[.int .i64 (0), .int .i64 (0)] 25)).heap.size (w2.alloc (.cells #[.int .i64 (0), .int .i64 (0)] 25)) w') => (show w'.cell? ⟨w.heap.size, 0, none⟩ = some (.int .i64 rn) ∧ w'.cell? ⟨w.heap.size, 1, none⟩ = some (.int .i64 rd) ∧ w'.cell? ⟨w.heap.size, 2, none⟩ = some (.int .i64 ln) ∧ w'.cell? ⟨w.heap.size, 3, none⟩ = some (.int .i64 ld) from ⟨(hb.cell (p := ⟨w.heap.size, 0, none⟩) d0).trans q0, (hb.cell (p := ⟨w.heap.size, 1, none⟩) d1).trans q1, (hb.cell (p := ⟨w.heap.size, 2, none⟩) d2).trans q2, (hb.cell (p := ⟨w.heap.size, 3, none⟩) d3).trans q3⟩))
  have OUT := hidd (fun (w' : World) (hb : Below (w2.alloc (.cells #[.int .i64 (0), .int .i64 (0)] 25)).heap.size (w2.alloc (.cells #[.int .i64 (0), .int .i64 (0)] 25)) w') => (show True ∧ True ∧ True ∧ Below w.heap.size w w' from ⟨trivial, trivial, trivial, below_step hBw hb⟩))
  clear dd d0 d1 d2 d3 q0 q1 q2 q3 hBw
  obtain ⟨k0, k1, k2, k3⟩ := KEEP.out _ (Below.refl _ _)
  go_wp2_with fail
  go_region_held (fun w' => w'.cell? ⟨w.heap.size, 0, none⟩ = some (.int .i64 rn) ∧ w'.cell? ⟨w.heap.size, 1, none⟩ = some (.int .i64 rd) ∧ w'.cell? ⟨w.heap.size, 2, none⟩ = some (.int .i64 ln) ∧ w'.cell? ⟨w.heap.size, 3, none⟩ = some (.int .i64 ld))
    ((first | exact KEEP.out _ cum2 | exact KEEP.out _ cum1 | exact KEEP.out _ (Below.refl _ _) | exact KEEP.out _ (Below.drew (Below.refl _ _)) | exact KEEP.out _ (below_new cum2 _) | exact KEEP.out _ (below_new (below_new cum2 _) _) | exact KEEP.out _ (below_new (Below.drew (Below.refl _ _)) _) | (refine KEEP.out _ ?_; have qq := cum2; (repeat' (first | (with_reducible exact Below.refl _ _) | (with_reducible assumption) | (with_reducible apply Below.setCell) | (with_reducible apply Below.alloc) | (with_reducible apply Below.drew) | (with_reducible apply below_drewN) | (with_reducible refine Below.trans ?_ (Below.mono (by assumption) ?_)) | omega | (simp; done) | (simp; omega))); done) | (refine KEEP.out _ ?_; (repeat' (first | (with_reducible exact Below.refl _ _) | (with_reducible assumption) | (with_reducible apply Below.setCell) | (with_reducible apply Below.alloc) | (with_reducible apply Below.drew) | (with_reducible apply below_drewN) | (with_reducible refine Below.trans ?_ (Below.mono (by assumption) ?_)) | omega | (simp; done) | (simp; omega))); done) | (obtain ⟨j0, j1, j2, j3⟩ := KEEP.out _ cum2; refine ⟨?_, ?_, ?_, ?_⟩ <;> simp [go_sem, *]; done) | go_keep))
    ((first
      | (go_at_call 20; refine (CCH.out _).mono ?_; rintro E1 v1 ⟨rfl, l1⟩; have cum1 : Below (w2.alloc (.cells #[.int .i64 (0), .int .i64 (0)] 25)).heap.size (w2.alloc (.cells #[.int .i64 (0), .int .i64 (0)] 25)) v1 := (by first | exact below_step (Below.drew (Below.refl _ _)) l1 | exact below_step (Below.refl _ _) l1 | (refine below_step ?_ l1; (repeat' (first | (with_reducible exact Below.refl _ _) | (with_reducible assumption) | (with_reducible apply Below.setCell) | (with_reducible apply Below.alloc) | (with_reducible apply Below.drew) | (with_reducible apply below_drewN) | (with_reducible refine Below.trans ?_ (Below.mono (by assumption) ?_)) | omega | (simp; done) | (simp; omega))))); have cz1 := Below.size cum1)
      | (go_at_call 21; refine (CRI.out _).mono ?_; rintro E2 v2 ⟨rfl, l2⟩; have cum2 : Below (w2.alloc (.cells #[.int .i64 (0), .int .i64 (0)] 25)).heap.size (w2.alloc (.cells #[.int .i64 (0), .int .i64 (0)] 25)) v2 := (by first | exact below_step cum1 l2 | (refine below_step ?_ l2; have qq := cum1; (repeat' (first | (with_reducible exact Below.refl _ _) | (with_reducible assumption) | (with_reducible apply Below.setCell) | (with_reducible apply Below.alloc) | (with_reducible apply Below.drew) | (with_reducible apply below_drewN) | (with_reducible refine Below.trans ?_ (Below.mono (by assumption) ?_)) | omega | (simp; done) | (simp; omega))))); have cz2 := Below.size cum2)))
  have X3 := hidd (HX.out.step cum2)
  clear k0 k1 k2 k3 KEEP OUT HX hx2 cum1 cum2 cz1 cz2 l1 l2
  obtain ⟨⟨-, ⟨m0, m1⟩, m2, m3⟩, ⟨n0, n1, n2⟩, -, -, -⟩ := X3.out
  go_wp2_with fail
  refine (CBE.out _).mono ?_
  rintro e w4 ⟨rfl, hb4⟩
  obtain ⟨⟨z0, -⟩, ⟨-, -, z1⟩, ⟨-, -, z2⟩, ⟨-, -, z3⟩, zb⟩ := X3.out.step hb4
  have z4 := zb.size
  clear zb
  have X4 := hidd ((X3.out.step hb4).past (.cells #[.int .i64 0, .int .i64 0] 25))
  clear m0 m1 m2 m3 n0 n1 n2 X3 hb4
  obtain ⟨⟨-, ⟨m0, m1⟩, m2, m3⟩, ⟨n0, n1, n2⟩, -, -, -⟩ := X4.out
  go_wp2_with fail
  refine (CRI.out _).mono ?_
  rintro e w5 ⟨rfl, hb5⟩
  have X5 := hidd (X4.out.step hb5)
  have G5 := hidd ((GBox.new (w := w4) rfl 25 0 0).step hb5)
  clear m0 m1 m2 m3 n0 n1 n2 X4 hb5
  obtain ⟨⟨-, ⟨m0, m1⟩, m2, m3⟩, ⟨n0, n1, n2⟩, -, -, -⟩ := X5.out
  go_wp2_with fail
  refine (CAR.out _).mono ?_
  rintro e w6 ⟨rfl, hb6⟩
  have X6 := hidd (X5.out.step hb6)
  have G6 := hidd (G5.out.step hb6)
  clear m0 m1 m2 m3 n0 n1 n2 X5 G5 hb6
  go_wp2_with fail
  refine (CNS.out _).mono ?_
  rintro e w7 ⟨rfl, hb7⟩
  have X7 := hidd (X6.out.step hb7)
  have G7 := hidd (G6.out.step hb7)
  clear X6 G6 hb7
  obtain ⟨g0, g1, g2, g3, g4⟩ := G7.out
  go_wp2_with fail
  have y8 : w4.heap.size < w7.heap.size := by have q := (G7.out.put s1 s2).1; simpa using q
  have X8 := hidd ((X7.out.put (by first | exact z0 | exact z1 | exact z2 | exact z3 | exact z4) (by first | exact z0 | exact z1 | exact z2 | exact z3 | exact z4) (by first | exact z0 | exact z1 | exact z2 | exact z3 | exact z4) (by first | exact z0 | exact z1 | exact z2 | exact z3 | exact z4) (by first | exact z0 | exact z1 | exact z2 | exact z3 | exact z4) s1 s2).past (.cells #[.int .i64 0, .int .i64 0] 25))
  have G8 := hidd ((G7.out.put s1 s2).past (.cells #[.int .i64 0, .int .i64 0] 25))
  have E8 := hidd (GBox.new (w := ((w7.setCell ⟨w4.heap.size, 0, none⟩ (.int .i64 s1)).setCell ⟨w4.heap.size, 1, none⟩ (.int .i64 s2))) (b := w7.heap.size) (by first | rfl | simp) 25 0 0)
  refine (CRC.out _ (HL.out.below X8.out.2.2.2.2)).mono ?_
  rintro e w9 ⟨RR, rfl, hRR, hb9⟩
  obtain rfl : RR = false := by cases RR; rfl; exact absurd (HR.out.2 (hRR.1 rfl)) (by simp)
  have X9 := hidd (X8.out.step hb9)
  have G9 := hidd (G8.out.step hb9)
  have E9 := hidd (E8.out.step hb9)
  clear hRR hb9 X8 G8 E8 X7 G7 g0 g1 g2 g3 g4
  obtain ⟨⟨-, ⟨m0, m1⟩, m2, m3⟩, ⟨n0, n1, n2⟩, ⟨x0, x1, x2⟩, ⟨y0, y1, y2⟩, -⟩ := X9.out
  obtain ⟨g0, g1, g2, g3, g4⟩ := G9.out
  obtain ⟨e0, e1, e2, e3, e4⟩ := E9.out
  go_wp2_with fail
  refine (T1.out _).mono ?_
  rintro e wc ⟨rfl, hbc⟩
  have Xc := hidd (X9.out.step hbc)
  have Gc := hidd (G9.out.step hbc)
  have Ec := hidd (E9.out.step hbc)
  clear X9 G9 E9 hbc m0 m1 m2 m3 n0 n1 n2 x0 x1 x2 y0 y1 y2 g0 g1 g2 g3 g4 e0 e1 e2 e3 e4
  obtain ⟨-, -, ⟨x0, x1, x2⟩, ⟨y0, y1, y2⟩, -⟩ := Xc.out
  obtain ⟨g0, g1, g2, g3, g4⟩ := Gc.out
  obtain ⟨e0, e1, e2, e3, e4⟩ := Ec.out
  go_wp2_with fail
  refine (T2.out _).mono ?_
  rintro e wd ⟨rfl, hbd⟩
  have HBd := hidd (below_step Xc.out.2.2.2.2 hbd)
  clear Xc Gc Ec hbd x0 x1 x2 y0 y1 y2 g0 g1 g2 g3 g4 e0 e1 e2 e3 e4
  go_wp2_with fail
  refine (ck.out _).mono ?_
  rintro e we ⟨rfl, hbe⟩
  have HBe := hidd (below_step HBd.out hbe)
  clear HBd hbe
  go_wp2_with fail
  go_ret
  exact ⟨by first | rfl | simp, by have q := HBe.out; (repeat' (first | (with_reducible exact Below.refl _ _) | (with_reducible assumption) | (with_reducible apply Below.setCell) | (with_reducible apply Below.alloc) | (with_reducible apply Below.drew) | (with_reducible apply below_drewN) | (with_reducible refine Below.trans ?_ (Below.mono (by assumption) ?_)) | omega | (simp; done) | (simp; omega)))⟩
set_option maxRecDepth 100000 in
set_option maxHeartbeats 8000000 in
theorem serves_111 (A : Option Addr) (L : List (Int × Int)) (c : Nat) (rn rd ln ld n d : Int) (hc : L.length ≤ c) (hcm : c ≤ maxLen) (hw : Word4 rn rd ln ld) (hn : (-9223372036854775808 ≤ n ∧ n ≤ 9223372036854775807) ∧ -9223372036854775808 ≤ d ∧ d ≤ 9223372036854775807) (hl40 : ¬ L.length > 40) (hS : servB rn rd ln ld = true) (hB : withB n d 2147483647 = true) (hR : true = true ↔ Zp.RgtC L) (w : World) (hl : Zp.Lie Zp.sendV 2 w w.heap.size A L) :
    Calls Tryz.prog 4 #[.slice A L.length c, .agg #[.int .i64 rn, .int .i64 rd, .int .i64 ln, .int .i64 ld], .agg #[.int .i64 n, .int .i64 d]] w fun e w' => e = .returned (.bool true) ∧ Below w.heap.size w w' := by
  have HL := hidd hl
  have ck := hidd (fun W => known4_any W)
  have cAt := fun W => At_any rn rd ln ld n d hw hn W
  have cHi := fun W (h : Zp.Lie Zp.sendV 2 W W.heap.size A L) => High_any true A L c (by omega) hR hc hcm n d hn W h
  have cCh := fun W => minCheck_any rn rd ln ld hw W
  have cRi := fun W => refRight4 rn rd ln ld hw W
  have cBe := fun W => between_any n d 2147483647 hn.1.1 hn.1.2 hn.2.1 hn.2.2 (by decide) (by decide) W
  rw [hS] at cCh cRi
  rw [hB] at cBe
  rw [if_pos rfl] at cCh
  have cRc := fun W (h : Zp.Lie Zp.sendV 2 W W.heap.size A L) => Zp.right3_any A L c (by omega) W h
  have eS : servM rn rd ln ld n d = servR rn rd ln ld n d := by unfold servM; rw [hS, hB]; rfl
  have hfs := serv_fit hS hw
  have hfb := with_fit hB hn
  have cAr := fun W => refAt4 rn rd ln ld n d hfs.1.right hfs.2.1.right hfb.right W
  have tS := tells_servM (rn := rn) (rd := rd) (ln := ln) (ld := ld) hw hn
  rw [eS] at cAt tS
  generalize servR rn rd ln ld n d = S at *
  obtain ⟨s1, s2, se⟩ := S
  have cNs := fun W => num4_any s1 s2 se (NumOk.of tS) W
  unfold numV at cAr
  dsimp only at cAr
  have CAR := hidd cAr
  have CNS := hidd cNs
  clear cAr cNs eS tS hfs
  have eH : highM true L n d = highR L n d := by unfold highM; rw [hB]; rfl
  have hrg := hR.1 rfl
  have hmay : MayL L := mayL_of hrg.2.1
  have cHr := fun W (h : Zp.Lie Zp.sendV 2 W W.heap.size A L) => refHigh4 A L c hrg.1.1 (by omega) hmay n d hfb.right W (liesO_of h)
  have tH := tells_highM hR (n := n) (d := d) hn
  rw [eH] at cHi tH
  generalize highR L n d = S at *
  obtain ⟨h1, h2, he⟩ := S
  have cNh := fun W => num4_any h1 h2 he (NumOk.of tH) W
  unfold numV at cHr
  dsimp only at cHr
  have CHR := hidd cHr
  have CNH := hidd cNh
  clear cHr cNh eH tH hfb hrg hmay
  unfold pairOf at cAt cHi
  dsimp only at cAt cHi
  have CAT := hidd cAt
  have CHI := hidd cHi
  have CCH := hidd cCh
  have CRI := hidd cRi
  have CBE := hidd cBe
  have CRC := hidd cRc
  have HR := hidd hR
  have T1 := hidd (fun W => told_same4 (s1) (s2) (se) W)
  have T2 := hidd (fun W => told_same4 (h1) (h2) (he) W)
  have HS0 := hidd ((HasServ.new w rn rd ln ld 27).step ((Below.refl _ _).alloc (Nat.le_refl _) (.cells #[.int .i64 n, .int .i64 d] 25)))
  have HN0 := hidd (HasRat.new (w.alloc (.cells #[.int .i64 rn, .int .i64 rd, .int .i64 ln, .int .i64 ld] 27)) n d 25)
  have HB0 := hidd (show Below w.heap.size w ((w.alloc (.cells #[.int .i64 rn, .int .i64 rd, .int .i64 ln, .int .i64 ld] 27)).alloc (.cells #[.int .i64 n, .int .i64 d] 25)) by (repeat' (first | (with_reducible exact Below.refl _ _) | (with_reducible assumption) | (with_reducible apply Below.setCell) | (with_reducible apply Below.alloc) | (with_reducible apply Below.drew) | (with_reducible apply below_drewN) | (with_reducible refine Below.trans ?_ (Below.mono (by assumption) ?_)) | omega | (simp; done) | (simp; omega))))
  have h40 : decide ((L.length : Int) > 40) = false := decide_eq_false (by omega)
  clear cAt cHi cCh cRi cBe cRc hl hR hw hn hS hB hl40 hc hcm
  go_enter Tryz.func4, Tryz.ntmps4
  go_wp2_with fail
  refine (CAT.out _).mono ?_
  rintro e w1 ⟨rfl, hb1⟩
  have HS1 := hidd (HS0.out.step hb1)
  have HN1 := hidd (show HasRat w1 (w.heap.size + 1) n d from by have q := HN0.out.step hb1; simpa using q)
  have HB1 := hidd (below_step HB0.out hb1)
  clear HS0 HN0 HB0 hb1
  obtain ⟨n0, n1, n2⟩ := HN1.out
  go_wp2_with fail
  refine (CHI.out _ (HL.out.below (by have q := HB1.out; (repeat' (first | (with_reducible exact Below.refl _ _) | (with_reducible assumption) | (with_reducible apply Below.setCell) | (with_reducible apply Below.alloc) | (with_reducible apply Below.drew) | (with_reducible apply below_drewN) | (with_reducible refine Below.trans ?_ (Below.mono (by assumption) ?_)) | omega | (simp; done) | (simp; omega)))))).mono ?_
  rintro e w2 ⟨rfl, hb2⟩
  have hx2 := hb2.size
  have HX := hidd (show Srv w (w2.alloc (.cells #[.int .i64 (h1), .int .i64 (h2)] 25)) w.heap.size (w.heap.size + 1) w1.heap.size w2.heap.size rn rd ln ld n d (s1) (s2) (h1) (h2) from
    ⟨((HS1.out.step ((Below.refl _ _).alloc (Nat.le_refl _) _)).step hb2).step ((Below.refl _ _).alloc (Nat.le_refl _) _), ((HN1.out.past _).step hb2).past _, ((HasRat.new w1 (s1) (s2) 25).step hb2).past _, HasRat.new w2 (h1) (h2) 25, below_new (below_step (below_new HB1.out _) hb2) _⟩)
  clear HS1 HN1 HB1 hb2 n0 n1 n2
  obtain ⟨⟨dd, ⟨q0, q1⟩, q2, q3⟩, -, -, -, hBw⟩ := HX.out
  have d0 := dd
  have d1 := dd
  have d2 := dd
  have d3 := dd
  have KEEP := hidd (fun (w' : World) (hb : Below (w2.alloc (.cells #[.int .i64 (h1), .int .i64 (h2)] 25)).heap.size (w2.alloc (.cells #[.int .i64 (h1), .int .i64 (h2)] 25)) w') => (show w'.cell? ⟨w.heap.size, 0, none⟩ = some (.int .i64 rn) ∧ w'.cell? ⟨w.heap.size, 1, none⟩ = some (.int .i64 rd) ∧ w'.cell? ⟨w.heap.size, 2, none⟩ = some (.int .i64 ln) ∧ w'.cell? ⟨w.heap.size, 3, none⟩ = some (.int .i64 ld) from ⟨(hb.cell (p := ⟨w.heap.size, 0, none⟩) d0).trans q0, (hb.cell (p := ⟨w.heap.size, 1, none⟩) d1).trans q1, (hb.cell (p := ⟨w.heap.size, 2, none⟩) d2).trans q2, (hb.cell (p := ⟨w.heap.size, 3, none⟩) d3).trans q3⟩))
  have OUT := hidd (fun (w' : World) (hb : Below (w2.alloc (.cells #[.int .i64 (h1), .int .i64 (h2)] 25)).heap.size (w2.alloc (.cells #[.int .i64 (h1), .int .i64 (h2)] 25)) w') => (show True ∧ True ∧ True ∧ Below w.heap.size w w' from ⟨trivial, trivial, trivial, below_step hBw hb⟩))
  clear dd d0 d1 d2 d3 q0 q1 q2 q3 hBw
  obtain ⟨k0, k1, k2, k3⟩ := KEEP.out _ (Below.refl _ _)
  go_wp2_with fail
  go_region_held (fun w' => w'.cell? ⟨w.heap.size, 0, none⟩ = some (.int .i64 rn) ∧ w'.cell? ⟨w.heap.size, 1, none⟩ = some (.int .i64 rd) ∧ w'.cell? ⟨w.heap.size, 2, none⟩ = some (.int .i64 ln) ∧ w'.cell? ⟨w.heap.size, 3, none⟩ = some (.int .i64 ld))
    ((first | exact KEEP.out _ cum2 | exact KEEP.out _ cum1 | exact KEEP.out _ (Below.refl _ _) | exact KEEP.out _ (Below.drew (Below.refl _ _)) | exact KEEP.out _ (below_new cum2 _) | exact KEEP.out _ (below_new (below_new cum2 _) _) | exact KEEP.out _ (below_new (Below.drew (Below.refl _ _)) _) | (refine KEEP.out _ ?_; have qq := cum2; (repeat' (first | (with_reducible exact Below.refl _ _) | (with_reducible assumption) | (with_reducible apply Below.setCell) | (with_reducible apply Below.alloc) | (with_reducible apply Below.drew) | (with_reducible apply below_drewN) | (with_reducible refine Below.trans ?_ (Below.mono (by assumption) ?_)) | omega | (simp; done) | (simp; omega))); done) | (refine KEEP.out _ ?_; (repeat' (first | (with_reducible exact Below.refl _ _) | (with_reducible assumption) | (with_reducible apply Below.setCell) | (with_reducible apply Below.alloc) | (with_reducible apply Below.drew) | (with_reducible apply below_drewN) | (with_reducible refine Below.trans ?_ (Below.mono (by assumption) ?_)) | omega | (simp; done) | (simp; omega))); done) | (obtain ⟨j0, j1, j2, j3⟩ := KEEP.out _ cum2; refine ⟨?_, ?_, ?_, ?_⟩ <;> simp [go_sem, *]; done) | go_keep))
    ((first
      | (go_at_call 20; refine (CCH.out _).mono ?_; rintro E1 v1 ⟨rfl, l1⟩; have cum1 : Below (w2.alloc (.cells #[.int .i64 (h1), .int .i64 (h2)] 25)).heap.size (w2.alloc (.cells #[.int .i64 (h1), .int .i64 (h2)] 25)) v1 := (by first | exact below_step (Below.drew (Below.refl _ _)) l1 | exact below_step (Below.refl _ _) l1 | (refine below_step ?_ l1; (repeat' (first | (with_reducible exact Below.refl _ _) | (with_reducible assumption) | (with_reducible apply Below.setCell) | (with_reducible apply Below.alloc) | (with_reducible apply Below.drew) | (with_reducible apply below_drewN) | (with_reducible refine Below.trans ?_ (Below.mono (by assumption) ?_)) | omega | (simp; done) | (simp; omega))))); have cz1 := Below.size cum1)
      | (go_at_call 21; refine (CRI.out _).mono ?_; rintro E2 v2 ⟨rfl, l2⟩; have cum2 : Below (w2.alloc (.cells #[.int .i64 (h1), .int .i64 (h2)] 25)).heap.size (w2.alloc (.cells #[.int .i64 (h1), .int .i64 (h2)] 25)) v2 := (by first | exact below_step cum1 l2 | (refine below_step ?_ l2; have qq := cum1; (repeat' (first | (with_reducible exact Below.refl _ _) | (with_reducible assumption) | (with_reducible apply Below.setCell) | (with_reducible apply Below.alloc) | (with_reducible apply Below.drew) | (with_reducible apply below_drewN) | (with_reducible refine Below.trans ?_ (Below.mono (by assumption) ?_)) | omega | (simp; done) | (simp; omega))))); have cz2 := Below.size cum2)))
  have X3 := hidd (HX.out.step cum2)
  clear k0 k1 k2 k3 KEEP OUT HX hx2 cum1 cum2 cz1 cz2 l1 l2
  obtain ⟨⟨-, ⟨m0, m1⟩, m2, m3⟩, ⟨n0, n1, n2⟩, -, -, -⟩ := X3.out
  go_wp2_with fail
  refine (CBE.out _).mono ?_
  rintro e w4 ⟨rfl, hb4⟩
  obtain ⟨⟨z0, -⟩, ⟨-, -, z1⟩, ⟨-, -, z2⟩, ⟨-, -, z3⟩, zb⟩ := X3.out.step hb4
  have z4 := zb.size
  clear zb
  have X4 := hidd ((X3.out.step hb4).past (.cells #[.int .i64 0, .int .i64 0] 25))
  clear m0 m1 m2 m3 n0 n1 n2 X3 hb4
  obtain ⟨⟨-, ⟨m0, m1⟩, m2, m3⟩, ⟨n0, n1, n2⟩, -, -, -⟩ := X4.out
  go_wp2_with fail
  refine (CRI.out _).mono ?_
  rintro e w5 ⟨rfl, hb5⟩
  have X5 := hidd (X4.out.step hb5)
  have G5 := hidd ((GBox.new (w := w4) rfl 25 0 0).step hb5)
  clear m0 m1 m2 m3 n0 n1 n2 X4 hb5
  obtain ⟨⟨-, ⟨m0, m1⟩, m2, m3⟩, ⟨n0, n1, n2⟩, -, -, -⟩ := X5.out
  go_wp2_with fail
  refine (CAR.out _).mono ?_
  rintro e w6 ⟨rfl, hb6⟩
  have X6 := hidd (X5.out.step hb6)
  have G6 := hidd (G5.out.step hb6)
  clear m0 m1 m2 m3 n0 n1 n2 X5 G5 hb6
  go_wp2_with fail
  refine (CNS.out _).mono ?_
  rintro e w7 ⟨rfl, hb7⟩
  have X7 := hidd (X6.out.step hb7)
  have G7 := hidd (G6.out.step hb7)
  clear X6 G6 hb7
  obtain ⟨g0, g1, g2, g3, g4⟩ := G7.out
  go_wp2_with fail
  have y8 : w4.heap.size < w7.heap.size := by have q := (G7.out.put s1 s2).1; simpa using q
  have X8 := hidd ((X7.out.put (by first | exact z0 | exact z1 | exact z2 | exact z3 | exact z4) (by first | exact z0 | exact z1 | exact z2 | exact z3 | exact z4) (by first | exact z0 | exact z1 | exact z2 | exact z3 | exact z4) (by first | exact z0 | exact z1 | exact z2 | exact z3 | exact z4) (by first | exact z0 | exact z1 | exact z2 | exact z3 | exact z4) s1 s2).past (.cells #[.int .i64 0, .int .i64 0] 25))
  have G8 := hidd ((G7.out.put s1 s2).past (.cells #[.int .i64 0, .int .i64 0] 25))
  have E8 := hidd (GBox.new (w := ((w7.setCell ⟨w4.heap.size, 0, none⟩ (.int .i64 s1)).setCell ⟨w4.heap.size, 1, none⟩ (.int .i64 s2))) (b := w7.heap.size) (by first | rfl | simp) 25 0 0)
  refine (CRC.out _ (HL.out.below X8.out.2.2.2.2)).mono ?_
  rintro e w9 ⟨RR, rfl, hRR, hb9⟩
  obtain rfl : RR = true := hRR.2 (by first | exact HR.out.1 rfl | exact HR.out.1 trivial)
  have X9 := hidd (X8.out.step hb9)
  have G9 := hidd (G8.out.step hb9)
  have E9 := hidd (E8.out.step hb9)
  clear hRR hb9 X8 G8 E8 X7 G7 g0 g1 g2 g3 g4
  obtain ⟨⟨-, ⟨m0, m1⟩, m2, m3⟩, ⟨n0, n1, n2⟩, ⟨x0, x1, x2⟩, ⟨y0, y1, y2⟩, -⟩ := X9.out
  obtain ⟨g0, g1, g2, g3, g4⟩ := G9.out
  obtain ⟨e0, e1, e2, e3, e4⟩ := E9.out
  go_wp2_with fail
  refine (CHR.out _ (HL.out.below X9.out.2.2.2.2)).mono ?_
  rintro e wa ⟨rfl, hba⟩
  have Xa := hidd (X9.out.step hba)
  have Ga := hidd (G9.out.step hba)
  have Ea := hidd (E9.out.step hba)
  clear X9 G9 E9 hba m0 m1 m2 m3 n0 n1 n2 x0 x1 x2 y0 y1 y2 g0 g1 g2 g3 g4 e0 e1 e2 e3 e4
  go_wp2_with fail
  refine (CNH.out _).mono ?_
  rintro e wb ⟨rfl, hbb⟩
  have Xb := hidd (Xa.out.step hbb)
  have Gb := hidd (Ga.out.step hbb)
  have Eb := hidd (Ea.out.step hbb)
  clear Xa Ga Ea hbb
  obtain ⟨⟨-, ⟨m0, m1⟩, m2, m3⟩, ⟨n0, n1, n2⟩, ⟨x0, x1, x2⟩, ⟨y0, y1, y2⟩, -⟩ := Xb.out
  have v1 : ¬ w1.heap.size = w7.heap.size := by omega
  have v2 : ¬ w2.heap.size = w7.heap.size := by omega
  have v3 : ¬ w4.heap.size = w7.heap.size := by omega
  have Xp := hidd (Xb.out.put (t := w7.heap.size) (by omega) (by omega) (by omega) (by omega) (by omega) h1 h2)
  have Gp := hidd (Gb.out.kq (((Below.refl w7.heap.size wb).setCell (p := ⟨w7.heap.size, 0, none⟩) (Nat.le_refl _) (.int .i64 h1)).setCell (p := ⟨w7.heap.size, 1, none⟩) (Nat.le_refl _) (.int .i64 h2)) y8)
  have Ep := hidd (Eb.out.put h1 h2)
  obtain ⟨g0, g1, g2, g3, g4⟩ := Gb.out
  obtain ⟨e0, e1, e2, e3, e4⟩ := Eb.out
  go_wp2_with fail
  refine (T1.out _).mono ?_
  rintro e wc ⟨rfl, hbc⟩
  have Xc := hidd (Xp.out.step hbc)
  have Gc := hidd (Gp.out.step hbc)
  have Ec := hidd (Ep.out.step hbc)
  clear Xp Gp Ep Xb Gb Eb hbc m0 m1 m2 m3 n0 n1 n2 x0 x1 x2 y0 y1 y2 g0 g1 g2 g3 g4 e0 e1 e2 e3 e4
  obtain ⟨-, -, ⟨x0, x1, x2⟩, ⟨y0, y1, y2⟩, -⟩ := Xc.out
  obtain ⟨g0, g1, g2, g3, g4⟩ := Gc.out
  obtain ⟨e0, e1, e2, e3, e4⟩ := Ec.out
  go_wp2_with fail
  refine (T2.out _).mono ?_
  rintro e wd ⟨rfl, hbd⟩
  have HBd := hidd (below_step Xc.out.2.2.2.2 hbd)
  clear Xc Gc Ec hbd x0 x1 x2 y0 y1 y2 g0 g1 g2 g3 g4 e0 e1 e2 e3 e4
  go_wp2_with fail
  refine (ck.out _).mono ?_
  rintro e we ⟨rfl, hbe⟩
  have HBe := hidd (below_step HBd.out hbe)
  clear HBd hbe
  go_wp2_with fail
  go_ret
  exact ⟨by first | rfl | simp, by have q := HBe.out; (repeat' (first | (with_reducible exact Below.refl _ _) | (with_reducible assumption) | (with_reducible apply Below.setCell) | (with_reducible apply Below.alloc) | (with_reducible apply Below.drew) | (with_reducible apply below_drewN) | (with_reducible refine Below.trans ?_ (Below.mono (by assumption) ?_)) | omega | (simp; done) | (simp; omega)))⟩
set_option maxHeartbeats 2000000 in
theorem serves_walk (A : Option Addr) (L : List (Int × Int)) (c : Nat) (rn rd ln ld n d : Int) (hc : L.length ≤ c) (hcm : c ≤ maxLen) (hw : Word4 rn rd ln ld) (hn : (-9223372036854775808 ≤ n ∧ n ≤ 9223372036854775807) ∧ -9223372036854775808 ≤ d ∧ d ≤ 9223372036854775807) (w : World) (hl : Zp.Lie Zp.sendV 2 w w.heap.size A L) :
    Calls Tryz.prog 4 #[.slice A L.length c, .agg #[.int .i64 rn, .int .i64 rd, .int .i64 ln, .int .i64 ld], .agg #[.int .i64 n, .int .i64 d]] w fun e w' => e = .returned (.bool true) ∧ Below w.heap.size w w' := by
  by_cases hl40 : L.length > 40
  · have ck := hidd (fun W => known4_any W)
    have h40 : decide ((L.length : Int) > 40) = true := decide_eq_true (by omega)
    clear hl hn hw hc hcm
    go_enter Tryz.func4, Tryz.ntmps4
    go_wp2_with fail
    refine (ck.out _).mono ?_
    rintro e we ⟨rfl, hbe⟩
    go_wp2_with fail
    go_ret
    exact ⟨by first | rfl | simp, by (repeat' (first | (with_reducible exact Below.refl _ _) | (with_reducible assumption) | (with_reducible apply Below.setCell) | (with_reducible apply Below.alloc) | (with_reducible apply Below.drew) | (with_reducible apply below_drewN) | (with_reducible refine Below.trans ?_ (Below.mono (by assumption) ?_)) | omega | (simp; done) | (simp; omega)))⟩
  · have main : ∀ SB WB R : Bool, servB rn rd ln ld = SB → withB n d 2147483647 = WB → (R = true ↔ Zp.RgtC L) → (Calls Tryz.prog 4 #[.slice A L.length c, .agg #[.int .i64 rn, .int .i64 rd, .int .i64 ln, .int .i64 ld], .agg #[.int .i64 n, .int .i64 d]] w fun e w' => e = .returned (.bool true) ∧ Below w.heap.size w w') := by
      intro SB WB R h1 h2 h3
      match SB, WB, R, h1, h2, h3 with
      | false, false, false, h1, h2, h3 => exact serves_000 A L c rn rd ln ld n d hc hcm hw hn hl40 h1 h2 h3 w hl
      | false, false, true, h1, h2, h3 => exact serves_001 A L c rn rd ln ld n d hc hcm hw hn hl40 h1 h2 h3 w hl
      | false, true, false, h1, h2, h3 => exact serves_010 A L c rn rd ln ld n d hc hcm hw hn hl40 h1 h2 h3 w hl
      | false, true, true, h1, h2, h3 => exact serves_011 A L c rn rd ln ld n d hc hcm hw hn hl40 h1 h2 h3 w hl
      | true, false, false, h1, h2, h3 => exact serves_100 A L c rn rd ln ld n d hc hcm hw hn hl40 h1 h2 h3 w hl
      | true, false, true, h1, h2, h3 => exact serves_101 A L c rn rd ln ld n d hc hcm hw hn hl40 h1 h2 h3 w hl
      | true, true, false, h1, h2, h3 => exact serves_110 A L c rn rd ln ld n d hc hcm hw hn hl40 h1 h2 h3 w hl
      | true, true, true, h1, h2, h3 => exact serves_111 A L c rn rd ln ld n d hc hcm hw hn hl40 h1 h2 h3 w hl
    by_cases hR : Zp.RgtC L
    · exact main _ _ true rfl rfl ⟨fun _ => hR, fun _ => rfl⟩
    · exact main _ _ false rfl rfl ⟨fun h => absurd h (by decide), fun h => absurd h hR⟩
end Go.Proofs.YtokcalmmmfakcaaGreat

/- Whatever the curve, the service and the time, MinplusServes answers true; no conditions. -/
namespace Go.Proofs.YtokcalmmmfakcaaGreat.minplusServes
open Go.ChangeShapes Go.WideShapes Go.ChangeAt Go.RowKit Go.Joins Go.Proofs.YtokcalmmmfakcaaGreat.RowK
set_option linter.unusedVariables false
set_option maxRecDepth 100000 in
theorem lifted (os : Os) (started : os.Started) (H : Type) (enc : TypeId × Value → H) :
    ReturnsInHanded {} Tryz.checked os 4 .any (Rows.minplusServesSpec.pre6 enc Tryz.prog Tryz.f4 Rows.minplusServesRow.domain false) (Rows.minplusServesSpec.post enc Tryz.prog Tryz.f4 false true false false) := by
  refine returnsInHanded_of_change (C := Tryz.checked) own started (by kernel_rfl) Tryz.func4
    (ChangeSpec.witness6 (enc := enc) (C := Tryz.checked) false ⟨#[], #[.slice none 0 0, .agg #[.int .i64 0, .int .i64 0, .int .i64 0, .int .i64 0], .agg #[.int .i64 0, .int .i64 0]], []⟩ 8 (by kernel_rfl) (by kernel_rfl) (by kernel_rfl) (by kernel_rfl)) ?_
  intro W base args ds gs before hval0 hW hcnd _
  have hval : ∀ (j : Nat) t v, Tryz.f4.params[j]? = some t → args[j]? = some v → Value.okWide Tryz.prog W .any base t v := hval0
  have hW' := hW
  obtain ⟨p, q, hA0, hV, rfl, hfz, hnd⟩ := hW
  have hA : DataW.TrodAll enc Tryz.prog W 0 (fun _ => true) true Tryz.f4.params.toList args.toList ds p := hA0
  rw [Tryz.params4] at hA hval
  obtain ⟨v0, vs0, d0, ds0, p0, q0, hargs, rfl, rfl, h0, r0⟩ := trodAll_cons hA
  obtain ⟨v1, vs1, d1, ds1, p1, q1, rfl, rfl, rfl, h1, r1⟩ := trodAll_cons r0
  obtain ⟨v2, vs2, d2, ds2, p2, q2, rfl, rfl, rfl, h2, r2⟩ := trodAll_cons r1
  obtain ⟨rfl, rfl, rfl⟩ := trodAll_nil r2
  obtain rfl : args = #[v0, v1, v2] := by cases args; simp_all
  obtain ⟨rfl, rfl⟩ := trodVars_none hV
  obtain ⟨A0, L0, c0, rfl, m0, n0, l0⟩ : ∃ (A : Option Addr) (L : List (Int × Int)) (c : Nat), v0 = .slice A L.length c ∧ L.length ≤ c ∧ c ≤ maxLen ∧ Zp.Lie Zp.sendV 2 W W.heap.size A L := by
    obtain ⟨ptr, len, cap, rfl⟩ := okWide_slice Tryz.underlying23 (hval 0 23 v0 rfl rfl)
    obtain ⟨fuel, hf⟩ := h0
    obtain ⟨A, L, c, e, hh⟩ := open_curve hf
    exact ⟨A, L, c, by simpa [Value.cells] using e, hh⟩
  obtain ⟨a1, b1, g1, u1, rfl, x1⟩ := open_serv Tryz.underlying27 (by kernel_rfl) Tryz.underlying25 Tryz.underlying25 rfl rfl (by kernel_rfl) (by kernel_rfl) (by kernel_rfl) Tryz.underlying2 Tryz.underlying2 (hval 1 27 v1 rfl rfl) h1
  obtain ⟨a2, b2, rfl, x2, y2⟩ := open_ints2 Tryz.underlying25 (by kernel_rfl) (by kernel_rfl) Tryz.underlying2 Tryz.underlying2 (hval 2 25 v2 rfl rfl) h2
  refine (YtokcalmmmfakcaaGreat.serves_walk A0 L0 c0 a1 b1 g1 u1 a2 b2 m0 n0 x1 ⟨x2, y2⟩ W l0).mono fun e W' ⟨he, hg⟩ => ?_
  subst he
  exact ⟨_, rfl, post_law laidOut (by rw [Tryz.params4]; intro t ht; simp at ht; rcases ht with rfl | rfl | rfl <;> exact ⟨by kernel_rfl, of_decide_eq_true (by kernel_rfl)⟩) hW' hA0 rfl (fun _ _ _ => (trodAll_cons_mk (shut_bool Tryz.underlying4 _) trodAll_mk0)) (fun _ => rfl) hg (ok_one (by kernel_rfl) rfl (okWide_bool_mk Tryz.underlying4 _))⟩

theorem over : Rows.minplusServesRow.holds Tryz.pinned (OpenSpec.ofChange Rows.minplusServesSpec) :=
  OpenClaim.holds_of_wide 4 Tryz.f4 rfl rfl rfl rfl rfl rfl rfl ⟨rfl, rfl, rfl, rfl, rfl⟩ rfl rfl rfl rfl rfl (by kernel_rfl) Tryz.func4 (by kernel_rfl)
    (of_decide_eq_true (by kernel_rfl)) (by unfold Func.isWrapper; first | (rw [if_pos (by decide +kernel)]; kernel_rfl) | (rw [if_neg (by decide +kernel)]; exact ⟨rfl, rfl⟩))
    (fun os started H enc _ => lifted os started H enc)
end Go.Proofs.YtokcalmmmfakcaaGreat.minplusServes
namespace Go.Proofs.YtokcalmmmfakcaaGreat
/-- the given statement. -/
theorem minplusServes_proved : Rows.MinplusServesSaid := minplusServes.over
end Go.Proofs.YtokcalmmmfakcaaGreat

