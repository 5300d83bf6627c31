/- Whatever the number of nodes, the links and the three nodes, RouteNear answers true; no conditions. -/
import Derived.Test.YtalhbjmhipiiiaaGreatTpR
import Derived.Test.YtalhbjmhipiiiaaGreatRtT
namespace Go.Proofs.YtalhbjmhipiiiaaGreat.Tp.RowK
open Go.ChangeShapes Go.WideShapes Go.ChangeAt Go.RowKit Go.Joins Go.Proofs.YtalhbjmhipiiiaaGreat.Tp
theorem open_triI {H : Type} {enc : TypeId × Value → H} {P : Program} {w : World} {base : Nat} {spare : Nat → Bool} {held : Bool} {r : Reach} {b0 : Nat} {t e : TypeId} {v : Value} {d : DataW H} {p : List MemPlace} (ht : P.underlying t = some (.array 3 e)) (hC : P.cellsOf t = 3) (hE : P.cellsOf e = 1) (he : P.underlying e = some (.int .i64))
    (hv : Value.okWide P w r b0 t v) (h : DataW.Trod enc P w base spare held t v d p) : ∃ a b c : Int, v = .agg #[.int .i64 a, .int .i64 b, .int .i64 c] ∧ I64 a ∧ I64 b ∧ I64 c := by
  obtain ⟨cs, rfl, hsz⟩ := okWide_array ht hv
  obtain ⟨l⟩ := cs
  match l, hsz.trans hC with
  | [c0, c1, c2], _ =>
    obtain ⟨fuel, hf⟩ := h
    obtain ⟨xs, m, _, _, _, hlen, hg⟩ := DataW.trod_array ht hf
    match xs, hlen with
    | [y0, y1, y2], _ =>
      have g0 : DataW.trod enc P w base spare held m e [c0] = some y0 := by simpa [Value.cells, hE] using hg 0 (by omega)
      have g1 : DataW.trod enc P w base spare held m e [c1] = some y1 := by simpa [Value.cells, hE] using hg 1 (by omega)
      have g2 : DataW.trod enc P w base spare held m e [c2] = some y2 := by simpa [Value.cells, hE] using hg 2 (by omega)
      obtain ⟨a0, e0, -, z0⟩ := DataW.trod_int he g0
      obtain ⟨a1, e1, -, z1⟩ := DataW.trod_int he g1
      obtain ⟨a2, e2, -, z2⟩ := DataW.trod_int he g2
      simp at e0 e1 e2
      subst e0 e1 e2
      exact ⟨a0, a1, a2, rfl, i64_of z0, i64_of z1, i64_of z2⟩
end Go.Proofs.YtalhbjmhipiiiaaGreat.Tp.RowK
namespace Go.Proofs.YtalhbjmhipiiiaaGreat.routeNear
open Go.ChangeShapes Go.WideShapes Go.ChangeAt Go.RowKit Go.Joins Go.Proofs.YtalhbjmhipiiiaaGreat.Tp Go.Proofs.YtalhbjmhipiiiaaGreat.Tp.RowK
set_option linter.unusedVariables false
set_option maxRecDepth 100000 in
theorem lifted (os : Os) (started : os.Started) (H : Type) (enc : TypeId × Value → H) :
    ReturnsInHanded {} Tryz.checked os 6 .any (Rows.routeNearSpec.pre6 enc Tryz.prog Tryz.f6 Rows.routeNearRow.domain false) (Rows.routeNearSpec.post enc Tryz.prog Tryz.f6 false true false false) := by
  refine returnsInHanded_of_change (C := Tryz.checked) own started (by kernel_rfl) Tryz.func6
    (ChangeSpec.witness6 (enc := enc) (C := Tryz.checked) false ⟨#[], #[.int .i64 0, .slice none 0 0, .agg #[.int .i64 0, .int .i64 0, .int .i64 0]], []⟩ 8 (by kernel_rfl) (by kernel_rfl) (by kernel_rfl) (by kernel_rfl)) ?_
  intro W base args ds gs before hval0 hW hcnd _
  have hval : ∀ (j : Nat) t v, Tryz.f6.params[j]? = some t → args[j]? = some v → Value.okWide Tryz.prog W .any base t v := hval0
  have hW' := hW
  obtain ⟨p, q, hA0, hV, rfl, hfz, hnd⟩ := hW
  have hA : DataW.TrodAll enc Tryz.prog W 0 (fun _ => true) true Tryz.f6.params.toList args.toList ds p := hA0
  rw [Tryz.params6] at hA hval
  obtain ⟨v0, vs0, d0, ds0, p0, q0, hargs, rfl, rfl, h0, r0⟩ := trodAll_cons hA
  obtain ⟨v1, vs1, d1, ds1, p1, q1, rfl, rfl, rfl, h1, r1⟩ := trodAll_cons r0
  obtain ⟨v2, vs2, d2, ds2, p2, q2, rfl, rfl, rfl, h2, r2⟩ := trodAll_cons r1
  obtain ⟨rfl, rfl, rfl⟩ := trodAll_nil r2
  obtain rfl : args = #[v0, v1, v2] := by cases args; simp_all
  obtain ⟨rfl, rfl⟩ := trodVars_none hV
  obtain ⟨a0, rfl, e0, f0, w0⟩ := open_int Tryz.underlying3 (hval 0 3 v0 rfl rfl) h0
  obtain ⟨A1, L1, c1, rfl, m1, n1, o1, l1⟩ : ∃ (A : Option Addr) (L : List Lk) (c : Nat), v1 = .slice A L.length c ∧ L.length ≤ c ∧ c ≤ maxLen ∧ WideL L ∧ Lie linkV 8 W W.heap.size A L := by
    obtain ⟨ptr, len, cap, rfl⟩ := okWide_slice Tryz.underlying22 (hval 1 22 v1 rfl rfl)
    obtain ⟨fuel, hf⟩ := h1
    obtain ⟨A, L, c, e, hh⟩ := open_links hf
    exact ⟨A, L, c, by simpa [Value.cells] using e, hh⟩
  obtain ⟨a2, b2, g2, rfl, x2, y2, z2⟩ := open_triI Tryz.underlying74 (by kernel_rfl) (by kernel_rfl) Tryz.underlying3 (hval 2 74 v2 rfl rfl) h2
  refine (YtalhbjmhipiiiaaGreat.Tp.routeNear_walk a0 A1 L1 c1 a2 b2 g2 (i64_of w0) m1 n1 o1 W l1).mono fun e W' ⟨he, hg⟩ => ?_
  subst he
  exact ⟨_, rfl, post_law laidOut (by rw [Tryz.params6]; intro t ht; simp at ht; rcases ht with rfl | rfl | rfl <;> exact ⟨by kernel_rfl, of_decide_eq_true (by kernel_rfl)⟩) hW' hA0 rfl (fun _ _ _ => (trodAll_cons_mk (shut_bool Tryz.underlying4 _) trodAll_mk0)) (fun _ => rfl) hg (ok_one (by kernel_rfl) rfl (okWide_bool_mk Tryz.underlying4 _))⟩

theorem over : Rows.routeNearRow.holds Tryz.pinned (OpenSpec.ofChange Rows.routeNearSpec) :=
  OpenClaim.holds_of_wide 6 Tryz.f6 rfl rfl rfl rfl rfl rfl rfl ⟨rfl, rfl, rfl, rfl, rfl⟩ rfl rfl rfl rfl rfl (by kernel_rfl) Tryz.func6 (by kernel_rfl)
    (of_decide_eq_true (by kernel_rfl)) (by unfold Func.isWrapper; first | (rw [if_pos (by decide +kernel)]; kernel_rfl) | (rw [if_neg (by decide +kernel)]; exact ⟨rfl, rfl⟩))
    (fun os started H enc _ => lifted os started H enc)
end Go.Proofs.YtalhbjmhipiiiaaGreat.routeNear
namespace Go.Proofs.YtalhbjmhipiiiaaGreat
/-- the given statement. -/
theorem routeNear_proved : Rows.RouteNearSaid := routeNear.over
end Go.Proofs.YtalhbjmhipiiiaaGreat
