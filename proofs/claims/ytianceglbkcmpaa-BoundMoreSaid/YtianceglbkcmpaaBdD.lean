/- The faces of the bound: Bound, Room, where all is right. -/
import Derived.Test.YtianceglbkcmpaaBdC
import Derived.ScopeJumps
namespace Go.Proofs.Ytianceglbkcmpaa
set_option linter.unusedVariables false
open Go.RowKit

theorem isSpec_any (p r u m l : Int) (w : World) : Calls Try.prog 46 #[.agg #[.int .i64 p, .int .i64 r, .int .i64 u, .int .i64 m, .int .i64 l]] w fun e w' => e = .returned (.bool (Zp.rightB p r u m l)) ∧ Below w.heap.size w w' := by
  have ca := hidd (fun W => Zp.check_any p r u m l W)
  generalize Zp.rightB p r u m l = P at *
  cases P
  all_goals
    go_enter Try.func46, Try.ntmps46
    go_wp2_with fail
    refine (ca.out _).mono ?_
    rintro e w1 ⟨rfl, hb⟩
    simp only [if_true, Bool.false_eq_true, if_false]
    go_wp2_with fail
    go_ret
    exact ⟨by first | rfl | simp, by (repeat' (first | (with_reducible exact Below.refl _ _) | (with_reducible assumption) | (with_reducible apply Below.setCell) | (with_reducible apply Below.alloc) | (with_reducible apply Below.drew) | (with_reducible apply below_drewN) | (with_reducible refine Below.trans ?_ (Below.mono (by assumption) ?_)) | omega | (simp; done) | (simp; omega)))⟩
def hasB (p r u m l R c d : Int) : Bool := Zp.rightB p r u m l && termsB c d && fromB r R 1000000
theorem spec_box (w : World) (p r u m l c d : Int) {W : World} (hb : Below ((w.alloc (.cells #[.int .i64 p, .int .i64 r, .int .i64 u, .int .i64 m, .int .i64 l] 23)).alloc (.cells #[.int .i64 c, .int .i64 d] 25)).heap.size ((w.alloc (.cells #[.int .i64 p, .int .i64 r, .int .i64 u, .int .i64 m, .int .i64 l] 23)).alloc (.cells #[.int .i64 c, .int .i64 d] 25)) W) :
    W.cell? ⟨w.heap.size, 1, none⟩ = some (.int .i64 r) ∧ W.cell? ⟨w.heap.size + 1, 0, none⟩ = some (.int .i64 c) ∧ W.cell? ⟨w.heap.size + 1, 1, none⟩ = some (.int .i64 d) ∧ w.heap.size + 1 < W.heap.size :=
  ⟨by rw [hb.cell (by simp; omega)]; simp [go_sem], by rw [hb.cell (by simp)]; simp [go_sem], by rw [hb.cell (by simp)]; simp [go_sem], by have := hb.size; simp at this; omega⟩
theorem hasBound_any (p r u m l R c d : Int) (w : World) : Calls Try.prog 20 #[.agg #[.int .i64 p, .int .i64 r, .int .i64 u, .int .i64 m, .int .i64 l], .int .i64 R, .agg #[.int .i64 c, .int .i64 d]] w fun e w' => e = .returned (.bool (hasB p r u m l R c d)) ∧ Below w.heap.size w w' := by
  have ca := hidd (fun W => isSpec_any p r u m l W)
  have cb := hidd (fun W => isTerms_any c d W)
  have cc := hidd (fun W => isFrom_any r R 1000000 W)
  have sb := hidd (fun W hb => spec_box w p r u m l c d (W := W) hb)
  unfold hasB
  generalize Zp.rightB p r u m l = P at *
  generalize termsB c d = Q at *
  generalize fromB r R 1000000 = F at *
  cases P
  · go_enter Try.func20, Try.ntmps20
    go_wp2_with fail
    refine (ca.out _).mono ?_
    rintro e w1 ⟨rfl, hb⟩
    go_wp2_with fail
    go_ret
    exact ⟨by simp, by (repeat' (first | (with_reducible exact Below.refl _ _) | (with_reducible assumption) | (with_reducible apply Below.setCell) | (with_reducible apply Below.alloc) | (with_reducible apply Below.drew) | (with_reducible apply below_drewN) | (with_reducible refine Below.trans ?_ (Below.mono (by assumption) ?_)) | omega | (simp; done) | (simp; omega)))⟩
  · cases Q
    · go_enter Try.func20, Try.ntmps20
      go_wp2_with fail
      refine (ca.out _).mono ?_
      rintro e w1 ⟨rfl, hb⟩
      obtain ⟨x1, x2, x3, x4⟩ := sb.out _ hb
      have HB1 := hidd (below_step (below_new (below_new (Below.refl w.heap.size w) _) _) hb)
      clear hb
      go_wp2_with fail
      refine (cb.out _).mono ?_
      rintro e w2 ⟨rfl, hb2⟩
      have HB2 := hidd (below_step HB1.out hb2)
      clear hb2 x1 x2 x3
      go_wp2_with fail
      go_ret
      exact ⟨by simp, HB2.out⟩
    · go_enter Try.func20, Try.ntmps20
      go_wp2_with fail
      refine (ca.out _).mono ?_
      rintro e w1 ⟨rfl, hb⟩
      obtain ⟨x1, x2, x3, x4⟩ := sb.out _ hb
      have HB1 := hidd (below_step (below_new (below_new (Below.refl w.heap.size w) _) _) hb)
      clear hb
      go_wp2_with fail
      refine (cb.out _).mono ?_
      rintro e w2 ⟨rfl, hb2⟩
      have HB2 := hidd (below_step HB1.out hb2)
      have y1 : w2.cell? ⟨w.heap.size, 1, none⟩ = some (.int .i64 r) := (hb2.cell (p := ⟨w.heap.size, 1, none⟩) (show w.heap.size < w1.heap.size by omega)).trans x1
      clear hb2 x1 x2 x3
      go_wp2_with fail
      refine (cc.out _).mono ?_
      rintro e w3 ⟨rfl, rfl⟩
      go_wp2_with fail
      go_ret
      exact ⟨by simp, HB2.out⟩
/-- a spec, a rate and terms in three boxes. -/
def AskAt (W : World) (a b e : Nat) (p r u m l R c d : Int) : Prop :=
  (a < W.heap.size ∧ W.cell? ⟨a, 0, none⟩ = some (.int .i64 p) ∧ W.cell? ⟨a, 1, none⟩ = some (.int .i64 r) ∧ W.cell? ⟨a, 2, none⟩ = some (.int .i64 u) ∧ W.cell? ⟨a, 3, none⟩ = some (.int .i64 m) ∧ W.cell? ⟨a, 4, none⟩ = some (.int .i64 l)) ∧
  (b < W.heap.size ∧ W.cell? ⟨b, 0, none⟩ = some (.int .i64 R)) ∧ e < W.heap.size ∧ W.cell? ⟨e, 0, none⟩ = some (.int .i64 c) ∧ W.cell? ⟨e, 1, none⟩ = some (.int .i64 d)
theorem AskAt.step {W W' : World} {a b e : Nat} {p r u m l R c d : Int} (h : AskAt W a b e p r u m l R c d) (hb : Below W.heap.size W W') : AskAt W' a b e p r u m l R c d :=
  ⟨⟨Nat.lt_of_lt_of_le h.1.1 hb.size, (hb.cell (p := ⟨a, 0, none⟩) h.1.1).trans h.1.2.1, (hb.cell (p := ⟨a, 1, none⟩) h.1.1).trans h.1.2.2.1, (hb.cell (p := ⟨a, 2, none⟩) h.1.1).trans h.1.2.2.2.1, (hb.cell (p := ⟨a, 3, none⟩) h.1.1).trans h.1.2.2.2.2.1, (hb.cell (p := ⟨a, 4, none⟩) h.1.1).trans h.1.2.2.2.2.2⟩,
   ⟨Nat.lt_of_lt_of_le h.2.1.1 hb.size, (hb.cell (p := ⟨b, 0, none⟩) h.2.1.1).trans h.2.1.2⟩, Nat.lt_of_lt_of_le h.2.2.1 hb.size, (hb.cell (p := ⟨e, 0, none⟩) h.2.2.1).trans h.2.2.2.1, (hb.cell (p := ⟨e, 1, none⟩) h.2.2.1).trans h.2.2.2.2⟩
theorem entersBound1 : ∀ args w, (callFunc 22 args).run Try.prog w = .ok (.enter 22 args) w := fun args w => by simp [callFunc, Try.func22, Try.f22, mark]
theorem boundStep (p r u m l R c d N D : Int) (hs : SpecIn p r u m) (hR1 : 1 ≤ R) (hR2 : R ≤ 1000000) (hc1 : 0 ≤ c) (hc2 : c ≤ 10000000) (hd1 : 0 ≤ d) (hd2 : d ≤ 1000000) (hok : LateOk p r u m l R c d N D) (a b e : Nat) (w : World) (ha : AskAt w a b e p r u m l R c d) :
    StepsTo 22 #[.pointer (some ⟨a, 0, none⟩), .pointer (some ⟨b, 0, none⟩), .pointer (some ⟨e, 0, none⟩)] (.returned (.agg #[.int .i64 N, .int .i64 D])) w := by
  intro W hW
  obtain ⟨⟨x0, x1, x2, x3, x4, x5⟩, ⟨y0, y1⟩, z0, z1, z2⟩ := ha.step hW
  have cl := hidd (fun W => late_ok p r u m l R c d N D hs hR1 hR2 hc1 hc2 hd1 hd2 hok W)
  have q1 : a < W.heap.size + 1 := by omega
  have q2 : b < W.heap.size + 1 := by omega
  have q3 : e < W.heap.size + 1 := by omega
  have q4 : ¬ a = W.heap.size := by omega
  have q5 : ¬ b = W.heap.size := by omega
  have q6 : ¬ e = W.heap.size := by omega
  clear hok hs ha hW
  go_enter Try.func22, Try.ntmps22
  go_wp2_with fail
  refine (cl.out _).mono ?_
  rintro E w1 ⟨rfl, hb⟩
  obtain ⟨bc, bf⟩ := bcell hb
  have z : W.heap.size < w1.heap.size := by have := hb.size; simp at this; omega
  go_wp2_with fail
  exact bodyPost_ret (v := .agg #[.int .i64 N, .int .i64 D]) (by simp [results, Try.results22, go_sem, *]) rfl ⟨rfl, by (repeat' (first | (with_reducible exact Below.refl _ _) | (with_reducible assumption) | (with_reducible apply Below.setCell) | (with_reducible apply Below.alloc) | (with_reducible apply Below.drew) | (with_reducible apply below_drewN) | (with_reducible refine Below.trans ?_ (Below.mono (by assumption) ?_)) | omega | (simp; done) | (simp; omega)))⟩
theorem ask_new (w : World) (p r u m l R c d : Int) : AskAt (((w.alloc (.cells #[.int .i64 p, .int .i64 r, .int .i64 u, .int .i64 m, .int .i64 l] 23)).alloc (.cells #[.int .i64 R] 2)).alloc (.cells #[.int .i64 c, .int .i64 d] 25)) w.heap.size (w.heap.size + 1) (w.heap.size + 1 + 1) p r u m l R c d :=
  ⟨⟨by simp; omega, by simp [go_sem], by simp [go_sem], by simp [go_sem], by simp [go_sem], by simp [go_sem]⟩, ⟨by simp, by simp [go_sem]⟩, by simp, by simp [go_sem], by simp [go_sem]⟩
set_option maxRecDepth 100000 in
set_option maxHeartbeats 4000000 in
theorem Bound_ok (p r u m l R c d N D : Int) (hh : hasB p r u m l R c d = true) (hs : SpecIn p r u m) (hR1 : 1 ≤ R) (hR2 : R ≤ 1000000) (hc1 : 0 ≤ c) (hc2 : c ≤ 10000000) (hd1 : 0 ≤ d) (hd2 : d ≤ 1000000) (hok : LateOk p r u m l R c d N D) (w : World) :
    Calls Try.prog 6 #[.agg #[.int .i64 p, .int .i64 r, .int .i64 u, .int .i64 m, .int .i64 l], .int .i64 R, .agg #[.int .i64 c, .int .i64 d]] w fun e w' => e = .returned (.tuple #[.agg #[.int .i64 N, .int .i64 D], .int .i64 0]) ∧ Below w.heap.size w w' := by
  have hmf : ∀ (fn : Fn) (first cap : Array Value) (w : World), (Instr.makeFunc fn first cap).run Try.prog w = .ok (.func fn first cap) w := fun _ _ _ _ => rfl
  have ch := fun W => hasBound_any p r u m l R c d W
  rw [hh] at ch
  have CH := hidd ch
  have st := hidd (fun a b e W ha => boundStep p r u m l R c d N D hs hR1 hR2 hc1 hc2 hd1 hd2 hok a b e W ha)
  have ka := hidd (ask_new w p r u m l R c d)
  clear ch hh hs hok
  go_enter Try.func6, Try.ntmps6
  go_wp2_with fail
  refine Zp.wp_scope_fwd 0 (fun a' w' => False) rfl ?_ (fun a' w' h => h.elim)
  have hA0 := hidd (ka.out.step ((Below.refl _ _).alloc (Nat.le_refl _) (.cells #[.int .i64 0, .int .i64 0] 27)))
  obtain ⟨⟨x0, x1, x2, x3, x4, x5⟩, ⟨y0, y1⟩, z0, z1, z2⟩ := hA0.out
  go_wp2_with fail
  refine (CH.out _).mono ?_
  rintro e w1 ⟨rfl, hb1⟩
  have HA1 := hidd (hA0.out.step hb1)
  have HG1 := hidd ((GBox.new (by simp : (((w.alloc (.cells #[.int .i64 p, .int .i64 r, .int .i64 u, .int .i64 m, .int .i64 l] 23)).alloc (.cells #[.int .i64 R] 2)).alloc (.cells #[.int .i64 c, .int .i64 d] 25)).heap.size = w.heap.size + 1 + 1 + 1) 27 0 0).step hb1)
  have HB1 := hidd (below_step (below_new (below_new (below_new (below_new (Below.refl w.heap.size w) _) _) _) _) hb1)
  clear hb1 x0 x1 x2 x3 x4 x5 y0 y1 z0 z1 z2
  go_wp2_with fail
  refine (toldBR_ok _ entersBound1 _ _ N D (st.out _ _ _ _ HA1.out)).mono ?_
  rintro e w2 ⟨rfl, hb2⟩
  obtain ⟨g0, g1, g2, g3, g4⟩ := HG1.out.step hb2
  have HB2 := hidd (below_step HB1.out hb2)
  clear hb2
  go_wp2_with fail
  (try simp only [Exit.jump])
  exact bodyPost_ret (v := .tuple #[.agg #[.int .i64 N, .int .i64 D], .int .i64 0]) (by simp [results, Try.results6, go_sem, *]) rfl ⟨rfl, by have := HB2.out; (repeat' (first | (with_reducible exact Below.refl _ _) | (with_reducible assumption) | (with_reducible apply Below.setCell) | (with_reducible apply Below.alloc) | (with_reducible apply Below.drew) | (with_reducible apply below_drewN) | (with_reducible refine Below.trans ?_ (Below.mono (by assumption) ?_)) | omega | (simp; done) | (simp; omega)))⟩
end Go.Proofs.Ytianceglbkcmpaa
